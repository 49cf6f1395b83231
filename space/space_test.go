package space

import (
	"fmt"
	"math"
	"slices"
	"testing"

	"stemma/api"
)

// images answers images, one behind the other.
func images(l ...[]int) [][]int { return l }

// made answers n counts that are 0, but for those of the sectors at, which are 1.
func made(n int, at ...int) []int {
	counts := make([]int, n)
	for _, a := range at {
		counts[a] = 1
	}
	return counts
}

// counted answers what Counts says, and asks that it is no error.
func counted(t *testing.T, what string, l [][]int, n int) []int {
	t.Helper()
	counts, e := Counts(l, n)
	if e != api.OK || len(counts) != n {
		t.Fatalf("%s: Counts of %d: %d numbers, %d", what, n, len(counts), e)
	}
	return counts
}

// holds asks that Counts says of the sectors what want has of them, and 0 of all others.
func holds(t *testing.T, what string, l [][]int, n int, want map[int]int) {
	t.Helper()
	for at, got := range counted(t, what, l, n) {
		if got != want[at] {
			t.Errorf("%s: %d in %d, not %d", what, got, at, want[at])
		}
	}
}

// refused asks that Counts answers ErrArg, and no numbers.
func refused(t *testing.T, what string, l [][]int, n int) {
	t.Helper()
	if counts, e := Counts(l, n); e != api.ErrArg || counts != nil {
		t.Errorf("%s: Counts of %d: %v, %d, not ErrArg", what, n, counts, e)
	}
}

// takes asks what Take answers.
func takes(t *testing.T, what string, counts []int, n int, want ...int) {
	t.Helper()
	if l, e := Take(counts, n); e != api.OK || !slices.Equal(l, want) {
		t.Errorf("%s: Take of %d: %v, %d, not %v", what, n, l, e, want)
	}
}

// fails asks which error Take answers, and that it answers no sectors.
func fails(t *testing.T, what string, counts []int, n int, want api.Errno) {
	t.Helper()
	if l, e := Take(counts, n); e != want || l != nil {
		t.Errorf("%s: Take of %d: %v, %d, not %d", what, n, l, e, want)
	}
}

// free asks what Free answers.
func free(t *testing.T, what string, counts []int, want int) {
	t.Helper()
	if n := Free(counts); n != want {
		t.Errorf("%s: Free: %d, not %d", what, n, want)
	}
}

// The chapter's table, row by row.
func TestExamples(t *testing.T) {
	first := images([]int{193, 0, 195}, []int{193})
	holds(t, "(193 0 195), (193)", first, 197, map[int]int{193: 2, 195: 1})
	counts := counted(t, "(193 0 195), (193)", first, 197)

	refused(t, "(192)", images([]int{192}), 300)
	refused(t, "(300)", images([]int{300}), 300)
	refused(t, "(-1)", images([]int{-1}), 300)
	refused(t, "none", nil, 1025)

	takes(t, "the first one", counts, 2, 194, 196)
	fails(t, "the first one", counts, 3, api.ErrFull)
	fails(t, "the first one", counts, -1, api.ErrArg)
	takes(t, "the first one", counts, 0)

	free(t, "the first one", counts, 2)
	free(t, "193 zeros", made(193), 0)
	free(t, "none", nil, 0)
}

// P6.1: how many sectors there may be.
func TestSectors(t *testing.T) {
	for _, n := range []int{0, 1, 192, 193, 194, 1023, 1024} {
		holds(t, "no images", nil, n, nil)
		holds(t, "a list of none", [][]int{}, n, nil)
		holds(t, "an image of no places", images(nil, []int{}), n, nil)
		holds(t, "zeros alone", images([]int{0, 0}, []int{0}), n, nil)
	}
	for _, n := range []int{-1, -2, 1025, 1026, math.MinInt, math.MaxInt} {
		refused(t, "no images", nil, n)
		refused(t, "a place that may be", images([]int{193}), n)
		refused(t, "zeros alone", images([]int{0}), n)
	}
}

// P6.1: which places there may be.
func TestPlaces(t *testing.T) {
	for _, n := range []int{0, 1, 100, 193, 194, 195, 300, 1024} {
		for at := -3; at < 1030; at++ {
			what := fmt.Sprint("the place ", at)
			switch {
			case at == 0:
				holds(t, what, images([]int{at}), n, nil)
			case at >= 193 && at < n:
				holds(t, what, images([]int{at}), n, map[int]int{at: 1})
			default:
				refused(t, what, images([]int{at}), n)
			}
		}
		for _, at := range []int{math.MinInt, math.MinInt + 193, -193, 1 << 16, 1<<32 + 193, math.MaxInt} {
			refused(t, fmt.Sprint("the place ", at), images([]int{at}), n)
		}
	}
}

// P6.1: a place that may not be is found wherever it stands.
func TestOneOfMany(t *testing.T) {
	for image := range 4 {
		for place := range 8 {
			for _, at := range []int{-1, 1, 192, 300, math.MaxInt} {
				var l [][]int
				for range 4 {
					l = append(l, []int{193, 0, 195, 0, 299, 193, 200, 201})
				}
				l[image][place] = at
				refused(t, fmt.Sprint(at, " in the image ", image, " at ", place), l, 300)
			}
		}
	}
	refused(t, "behind images of no places", images(nil, []int{0}, nil, []int{192}), 300)
	refused(t, "two of them", images([]int{193, 192}, []int{-1}), 300)
}

// P6.1: all images, and all of their places, count.
func TestHeldByMany(t *testing.T) {
	holds(t, "three images", images([]int{193}, []int{0, 193}, nil, []int{194, 193}), 300, map[int]int{193: 3, 194: 1})
	holds(t, "twice by one", images([]int{200, 200}), 300, map[int]int{200: 2})
	holds(t, "twice by one, once by another", images([]int{200, 0, 200}, []int{200}), 300, map[int]int{200: 3})
	holds(t, "the first and the last", images([]int{1023, 193}, []int{1023}), 1024, map[int]int{193: 1, 1023: 2})
	holds(t, "the one there is", images([]int{193}), 194, map[int]int{193: 1})

	var all []int
	want := map[int]int{}
	for at := 193; at < 1024; at++ {
		all = append(all, at)
		want[at] = 2
	}
	holds(t, "all, twice", images(all, all), 1024, want)

	var same [][]int
	for range 1000 {
		same = append(same, []int{250, 0, 250, 250})
	}
	holds(t, "one, 3000 times", same, 251, map[int]int{250: 3000})
}

// P6.2: Free of counts as images have them.
func TestFree(t *testing.T) {
	for n := range 1100 {
		free(t, fmt.Sprint(n, " zeros"), made(n), max(0, n-193))
	}
	free(t, "the first one is held", made(200, 193), 6)
	free(t, "the last one is held", made(200, 199), 6)
	free(t, "all are held", made(196, 193, 194, 195), 0)
	free(t, "the one there is, held", made(194, 193), 0)
}

// P6.2: counts that are those of no images are numbers, too: what is not 0 is not free.
func TestAnyNumbers(t *testing.T) {
	for _, n := range []int{-1, 1, 2, math.MinInt, math.MaxInt, 256, 1 << 32} {
		counts := made(198)
		counts[194], counts[196] = n, n
		free(t, fmt.Sprint("two of ", n), counts, 3)
		takes(t, fmt.Sprint("two of ", n), counts, 3, 193, 195, 197)
		fails(t, fmt.Sprint("two of ", n), counts, 4, api.ErrFull)
	}
	// Sectors below Data are never free, and say nothing of those behind them.
	for _, n := range []int{-1, 1, 7, math.MaxInt} {
		counts := made(195)
		for at := range 193 {
			counts[at] = n
		}
		free(t, fmt.Sprint(n, " below Data"), counts, 2)
		takes(t, fmt.Sprint(n, " below Data"), counts, 2, 193, 194)
		free(t, fmt.Sprint(n, " below Data alone"), counts[:193], 0)
	}
	// How many counts there are is not bound to a disk.
	free(t, "5000 zeros", made(5000), 4807)
	takes(t, "one behind a disk's last", made(5000, sectorsForBlocks()...), 2, 1024, 1025)
}

// sectorsForBlocks answers those of the greatest disk, rising.
func sectorsForBlocks() []int {
	var l []int
	for at := 193; at < 1024; at++ {
		l = append(l, at)
	}
	return l
}

// P6.2: Take, at each number around how many are free.
func TestTake(t *testing.T) {
	tables := map[string][]int{
		"none":                nil,
		"a list of none":      {},
		"one zero":            made(1),
		"192 zeros":           made(192),
		"193 zeros":           made(193),
		"194 zeros":           made(194),
		"one, held":           made(194, 193),
		"the first one held":  made(200, 193),
		"the last one held":   made(200, 199),
		"each second":         made(205, 193, 195, 197, 199, 201, 203),
		"one in the midst":    made(205, 193, 194, 195, 196, 197, 199, 200, 201, 202, 203, 204),
		"all held":            made(196, 193, 194, 195),
		"a disk's as many":    made(1024),
		"the greatest, alone": made(1024, sectorsForBlocks()[:830]...),
	}
	for what, counts := range tables {
		var all []int
		for at := 193; at < len(counts); at++ {
			if counts[at] == 0 {
				all = append(all, at)
			}
		}
		free(t, what, counts, len(all))
		for n := range all {
			takes(t, what, counts, n, all[:n]...)
		}
		takes(t, what, counts, len(all), all...)
		for _, n := range []int{len(all) + 1, len(all) + 2, 1025, 1 << 40, math.MaxInt} {
			fails(t, what, counts, n, api.ErrFull)
		}
		for _, n := range []int{-1, -2, -len(all) - 1, math.MinInt} {
			fails(t, what, counts, n, api.ErrArg)
		}
	}
}

// P6.3: what is taken is held by no image; with an image more that holds just that, as many less are free.
func TestTakenIsHeldThen(t *testing.T) {
	l := images([]int{193, 0, 195, 210}, []int{195, 195}, nil, []int{0, 0, 219})
	for step := range 20 {
		counts := counted(t, "with what was taken", l, 220)
		before := Free(counts)
		n := min(before, step%4)
		taken, e := Take(counts, n)
		if e != api.OK || len(taken) != n {
			t.Fatalf("Take of %d: %v, %d", n, taken, e)
		}
		for _, image := range l {
			for _, at := range taken {
				if slices.Contains(image, at) {
					t.Errorf("%d is held by %v", at, image)
				}
			}
		}
		l = append(l, taken)
		free(t, "with what was taken", counted(t, "with what was taken", l, 220), before-n)
	}
	// Nothing was given twice, and nothing was left.
	want := map[int]int{195: 3}
	for at := 193; at < 220; at++ {
		want[at] = max(want[at], 1)
	}
	holds(t, "all taken", l, 220, want)
}

// R2: which error comes first makes no difference for Counts (both are ErrArg); Take asks the number ahead of the room.
func TestErrorsInOrder(t *testing.T) {
	refused(t, "n and a place", images([]int{192}), -1)
	refused(t, "n and a place", images([]int{192}), 1025)
	fails(t, "below 0 of none", nil, -1, api.ErrArg)
	fails(t, "below 0 of all held", made(194, 193), math.MinInt, api.ErrArg)
}

// R5: what was handed in is as it was, and what is answered is new.
func TestNothingKept(t *testing.T) {
	l := images([]int{193, 0, 195}, []int{193}, nil)
	first := counted(t, "images", l, 197)
	second := counted(t, "images", l, 197)
	if !slices.EqualFunc(l, images([]int{193, 0, 195}, []int{193}, nil), slices.Equal[[]int]) {
		t.Errorf("Counts changed %v", l)
	}
	first[194] = 9
	if second[194] != 0 || !slices.Equal(l[0], []int{193, 0, 195}) {
		t.Error("two answers of Counts share memory")
	}
	l[0][0] = 196
	if second[193] != 2 || second[196] != 0 {
		t.Error("Counts keeps what was handed in")
	}

	counts := slices.Clone(second)
	one, _ := Take(counts, 2)
	other, _ := Take(counts, 2)
	if Free(counts) != 2 || !slices.Equal(counts, second) {
		t.Error("Take or Free changed the counts")
	}
	one[0], one[1] = 7, 7
	if !slices.Equal(other, []int{194, 196}) || !slices.Equal(counts, second) {
		t.Error("two answers of Take share memory")
	}
	counts[194] = 1
	if !slices.Equal(other, []int{194, 196}) {
		t.Error("Take keeps what was handed in")
	}
}

// What lies behind a list's end is none of it.
func TestBehindTheEnd(t *testing.T) {
	places := []int{193, 194, 192, 195}
	holds(t, "a list that goes on", images(places[:2], places[3:]), 300, map[int]int{193: 1, 194: 1, 195: 1})
	all := images([]int{193}, []int{192})
	holds(t, "images that go on", all[:1], 300, map[int]int{193: 1})
	counts := made(300)
	free(t, "counts that go on", counts[:195], 2)
	takes(t, "counts that go on", counts[:195], 2, 193, 194)
	fails(t, "counts that go on", counts[:195], 3, api.ErrFull)
}

// The iterator stops where the loop does, and goes through all places in order.
func TestIterator(t *testing.T) {
	l := images([]int{1, 2}, nil, []int{3}, []int{4, 5, 6})
	for stop := range 7 {
		var got []int
		for at := range places(l) {
			got = append(got, at)
			if len(got) == stop {
				break
			}
		}
		want := []int{1, 2, 3, 4, 5, 6}
		if stop > 0 {
			want = want[:stop]
		}
		if !slices.Equal(got, want) {
			t.Errorf("up to %d: %v", stop, got)
		}
	}
}

// FuzzSpace holds the package against what is told sector by sector.
func FuzzSpace(f *testing.F) {
	f.Add([]byte{0, 1, 255, 2, 2, 3}, 200, 3)
	f.Add([]byte{1, 1, 1, 255, 255, 1}, 195, 1)
	f.Add([]byte{0, 0}, 193, 0)
	f.Add([]byte{254, 1}, 1024, -1)
	f.Fuzz(func(t *testing.T, data []byte, n, take int) {
		l := imagesOf(data)
		counts, e := Counts(l, n)
		if !may(l, n) {
			if e != api.ErrArg || counts != nil {
				t.Fatalf("%v of %d: %v, %d", l, n, counts, e)
			}
			return
		}
		if e != api.OK || len(counts) != n {
			t.Fatalf("%v of %d: %v, %d", l, n, counts, e)
		}
		var all []int
		for at, got := range counts {
			want := 0
			for _, image := range l {
				for _, place := range image {
					if place == at && at != 0 {
						want++
					}
				}
			}
			if got != want {
				t.Fatalf("%v of %d: %d in %d, not %d", l, n, got, at, want)
			}
			if at >= 193 && want == 0 {
				all = append(all, at)
			}
		}
		free(t, "fuzz", counts, len(all))
		switch {
		case take < 0:
			fails(t, "fuzz", counts, take, api.ErrArg)
		case take > len(all):
			fails(t, "fuzz", counts, take, api.ErrFull)
		default:
			takes(t, "fuzz", counts, take, all[:take]...)
		}
	})
}

// imagesOf answers images of bytes: 255 ends an image, 254 is the place 192, 0 is 0, and what is left goes from 193 on.
func imagesOf(data []byte) [][]int {
	l := [][]int{nil}
	for _, b := range data {
		last := len(l) - 1
		switch b {
		case 255:
			l = append(l, nil)
		case 254:
			l[last] = append(l[last], 192)
		case 0:
			l[last] = append(l[last], 0)
		default:
			l[last] = append(l[last], 192+int(b))
		}
	}
	return l
}

// may tells whether Counts has to answer numbers.
func may(l [][]int, n int) bool {
	for _, image := range l {
		for _, at := range image {
			if at != 0 && (at < 193 || at >= n) {
				return false
			}
		}
	}
	return n >= 0 && n <= 1024
}
