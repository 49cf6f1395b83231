package image

import (
	"fmt"
	"math"
	"slices"
	"testing"

	"stemma/api"
)

// list answers the places handed in, as an image.
func list(places ...int) []int { return places }

// zerosBut answers n places that are 0, but for the one at block.
func zerosBut(n, block, at int) []int {
	l := make([]int, n)
	l[block] = at
	return l
}

// checks asks what Check answers, and that the image is then what it was.
func checks(t *testing.T, image []int, blocks, n int, want api.Errno) {
	t.Helper()
	was := slices.Clone(image)
	if e := Check(image, blocks, n); e != want {
		t.Errorf("Check(%v, %d, %d): %d, not %d", image, blocks, n, e, want)
	}
	if !slices.Equal(image, was) {
		t.Errorf("Check changed %v to %v", was, image)
	}
}

// differ asks what Diff answers, both ways round.
func differ(t *testing.T, a, b []int, want ...int) {
	t.Helper()
	if l := Diff(a, b); !slices.Equal(l, want) {
		t.Errorf("Diff(%v, %v): %v, not %v", a, b, l, want)
	}
	if l := Diff(b, a); !slices.Equal(l, want) {
		t.Errorf("Diff(%v, %v): %v, not %v", b, a, l, want)
	}
}

// with asks what With answers, where that is no error.
func with(t *testing.T, image []int, block, sector int, want ...int) {
	t.Helper()
	if l, e := With(image, block, sector); e != api.OK || !slices.Equal(l, want) {
		t.Errorf("With(%v, %d, %d): %v, %d, not %v", image, block, sector, l, e, want)
	}
}

// refused asks that With answers ErrArg, and no image.
func refused(t *testing.T, image []int, block, sector int) {
	t.Helper()
	if l, e := With(image, block, sector); e != api.ErrArg || l != nil {
		t.Errorf("With(%v, %d, %d): %v, %d, not ErrArg", image, block, sector, l, e)
	}
}

// The chapter's table, row by row.
func TestExamples(t *testing.T) {
	checks(t, list(0, 193, 200), 3, 201, api.OK)
	checks(t, list(0, 193, 200), 3, 200, api.ErrArg)
	checks(t, list(192), 1, 500, api.ErrArg)
	checks(t, list(193, 193), 2, 500, api.ErrTwice)
	checks(t, list(0), 2, 500, api.ErrArg)

	differ(t, list(0, 193), list(194, 193), 0)
	differ(t, list(0, 193), list(0), 1)
	differ(t, list(0, 0), nil)

	with(t, list(0, 0), 1, 7, 0, 7)
	refused(t, list(0), 1, 7)
	refused(t, list(0), 0, -1)
}

// P7.1: how many blocks there may be, and that there is a place for each one.
func TestBlocks(t *testing.T) {
	for blocks := 1; blocks <= 8; blocks++ {
		checks(t, make([]int, blocks), blocks, 1024, api.OK)
		checks(t, make([]int, blocks-1), blocks, 1024, api.ErrArg)
		checks(t, make([]int, blocks+1), blocks, 1024, api.ErrArg)
		checks(t, nil, blocks, 1024, api.ErrArg)
		checks(t, []int{}, blocks, 1024, api.ErrArg)
		checks(t, make([]int, 1000), blocks, 1024, api.ErrArg)
	}
	for _, blocks := range []int{math.MinInt, -9, -8, -1, 0, 9, 10, 16, 255, 256, 1 << 16, 1 << 32, 1<<32 + 1, math.MaxInt} {
		for places := range 20 {
			checks(t, make([]int, places), blocks, 1024, api.ErrArg)
		}
	}
	for _, blocks := range []int{256, 257, 1 << 16} {
		checks(t, make([]int, blocks), blocks, 1024, api.ErrArg)
		checks(t, make([]int, blocks-1), blocks, 1024, api.ErrArg)
		checks(t, make([]int, blocks+1), blocks, 1024, api.ErrArg)
	}
}

// P7.1: which places there may be, at each block of each image, for each disk.
func TestPlaces(t *testing.T) {
	for _, n := range []int{math.MinInt, -1, 0, 1, 192, 193, 194, 195, 300, 1023, 1024, 1025, 5000, math.MaxInt} {
		places := []int{math.MinInt, -193, -2, -1, 0, 1, 2, 31, 96, 191, 192, 193, 194, 195, 299, 300, 301, 1022, 1023, 1024, 1025, 4999, 5000, 1 << 16, 1 << 32, 1<<32 + 193, math.MaxInt - 1, math.MaxInt}
		for _, at := range places {
			want := api.ErrArg
			if at == 0 || at >= 193 && at < n {
				want = api.OK
			}
			for blocks := 1; blocks <= 8; blocks++ {
				for block := range blocks {
					checks(t, zerosBut(blocks, block, at), blocks, n, want)
				}
			}
		}
	}
	for at := 1; at < 193; at++ {
		checks(t, list(at), 1, 1024, api.ErrArg)
	}
	for at := 193; at < 1024; at++ {
		checks(t, list(at), 1, 1024, api.OK)
		checks(t, list(at), 1, at+1, api.OK)
		checks(t, list(at), 1, at, api.ErrArg)
	}
}

// P7.1: images of all zeros are in no sector: of how many the disk has says nothing then.
func TestZeros(t *testing.T) {
	for _, n := range []int{math.MinInt, -1, 0, 1, 193, 194, 1024, math.MaxInt} {
		for blocks := 1; blocks <= 8; blocks++ {
			checks(t, make([]int, blocks), blocks, n, api.OK)
		}
	}
	checks(t, list(0, 0, 193, 0, 0, 194, 0, 0), 8, 195, api.OK)
	checks(t, list(193, 0, 0, 0, 0, 0, 0, 194), 8, 195, api.OK)
	checks(t, list(0, 193, 194, 195, 196, 197, 198, 0), 8, 199, api.OK)
}

// P7.1: whole images, all of whose places are sectors.
func TestWholeImages(t *testing.T) {
	checks(t, list(193, 194, 195, 196, 197, 198, 199, 200), 8, 201, api.OK)
	checks(t, list(200, 199, 198, 197, 196, 195, 194, 193), 8, 201, api.OK)
	checks(t, list(1023, 193, 1022, 194, 1021, 195, 1020, 196), 8, 1024, api.OK)
	checks(t, list(193, 194, 195, 196, 197, 198, 199, 200), 8, 200, api.ErrArg)
	checks(t, list(200, 199, 198, 197, 196, 195, 194, 193), 8, 200, api.ErrArg)
}

// P7.1: the same sector twice, wherever the two stand.
func TestTwice(t *testing.T) {
	for blocks := 2; blocks <= 8; blocks++ {
		for one := range blocks {
			for other := range one {
				for _, at := range []int{193, 200, 300, 1023} {
					zeros := zerosBut(blocks, one, at)
					zeros[other] = at
					checks(t, zeros, blocks, 1024, api.ErrTwice)
					whole := list(400, 401, 402, 403, 404, 405, 406, 407)[:blocks]
					checks(t, whole, blocks, 1024, api.OK)
					whole[one], whole[other] = at, at
					checks(t, whole, blocks, 1024, api.ErrTwice)
				}
			}
		}
	}
	checks(t, list(193, 193, 193), 3, 194, api.ErrTwice)
	checks(t, list(193, 194, 193, 194), 4, 195, api.ErrTwice)
	checks(t, list(300, 300, 300, 300, 300, 300, 300, 300), 8, 301, api.ErrTwice)
	checks(t, list(5000, 0, 5000), 3, 5001, api.ErrTwice)
}

// P7.1, R2: a place that may not be comes ahead of two that are alike, wherever it stands.
func TestErrorsInOrder(t *testing.T) {
	for wrong := range 8 {
		for _, at := range []int{math.MinInt, -1, 1, 192, 500, math.MaxInt} {
			for one := range 8 {
				for other := range one {
					if one == wrong || other == wrong {
						continue
					}
					l := zerosBut(8, wrong, at)
					l[one], l[other] = 300, 300
					checks(t, l, 8, 500, api.ErrArg)
				}
			}
		}
	}
	// Two alike that may not be are no error of their own.
	checks(t, list(192, 192), 2, 500, api.ErrArg)
	checks(t, list(-1, -1), 2, 500, api.ErrArg)
	checks(t, list(500, 500), 2, 500, api.ErrArg)
	checks(t, list(193, 193), 2, 193, api.ErrArg)
	// As many places as there are not.
	checks(t, list(193, 193), 1, 500, api.ErrArg)
	checks(t, list(193, 193), 3, 500, api.ErrArg)
	checks(t, make([]int, 9), 9, 500, api.ErrArg)
	checks(t, list(193, 193, 0, 0, 0, 0, 0, 0, 0), 9, 500, api.ErrArg)
}

// lengths are those of lists below, at, and far above that of an image.
func lengths() []int {
	return []int{0, 1, 2, 3, 7, 8, 9, 15, 16, 17, 23, 24, 25, 31, 32, 33, 100, 1000}
}

// P7.2: one place that differs, in lists of all lengths.
func TestDiffOfOne(t *testing.T) {
	for _, n := range lengths() {
		differ(t, make([]int, n), make([]int, n))
		for block := range n {
			for _, at := range []int{math.MinInt, -1, 1, 193, math.MaxInt} {
				differ(t, make([]int, n), zerosBut(n, block, at), block)
				differ(t, zerosBut(n, block, at), zerosBut(n, block, at))
				differ(t, zerosBut(n, block, at), zerosBut(n, block, at-1), block)
			}
			if n > 100 && block > 50 {
				break
			}
		}
	}
}

// P7.2: all differ, or each second one.
func TestDiffOfMany(t *testing.T) {
	for _, n := range lengths() {
		var a, b, c, all, odd []int
		for block := range n {
			a, b, c = append(a, block-5), append(b, block-6), append(c, block-5)
			all = append(all, block)
			if block%2 == 1 {
				c[block] = math.MaxInt
				odd = append(odd, block)
			}
		}
		differ(t, a, b, all...)
		differ(t, a, c, odd...)
		differ(t, b, c, all...)
		differ(t, a, slices.Clone(a))
	}
}

// P7.2: places that a list has not count as 0.
func TestDiffOfUnlikeLengths(t *testing.T) {
	for _, long := range lengths() {
		for _, short := range lengths() {
			if short > long {
				break
			}
			differ(t, make([]int, long), make([]int, short))
			ones := slices.Repeat([]int{-1}, long)
			var behind []int
			for block := short; block < long; block++ {
				behind = append(behind, block)
			}
			differ(t, ones, ones[:short], behind...)
			if short < long {
				differ(t, zerosBut(long, short, 7), make([]int, short), short)
				differ(t, zerosBut(long, long-1, 7), make([]int, short), long-1)
			}
		}
	}
	differ(t, nil, []int{})
	differ(t, nil, nil)
	differ(t, nil, list(0, 3, 0), 1)
	differ(t, []int{}, list(5, 0, -3), 0, 2)
	differ(t, list(1, 2, 3), list(1, 0), 1, 2)
	differ(t, list(1, 2, 3, 4, 5, 6, 7, 8, 0, 0, 9), list(1, 2, 3, 4, 5, 6, 7, 8), 10)
	differ(t, list(1, 2, 3, 4, 5, 6, 7, 8, 0), list(1, 2, 3, 4, 5, 6, 7, 8))
	differ(t, list(1, 2, 3, 4, 5, 6, 7, 8), list(0, 2, 3, 4, 5, 6, 7), 0, 7)
}

// What lies behind a list's end is none of it.
func TestBehindTheEnd(t *testing.T) {
	l := list(193, 194, 193, 192, 5)
	checks(t, l[:2], 2, 195, api.OK)
	checks(t, l[:3], 3, 195, api.ErrTwice)
	differ(t, l[:2], list(193, 194))
	differ(t, l[:2], l, 2, 3, 4)
	with(t, l[:2], 0, 9, 9, 194)
	refused(t, l[:2], 2, 9)
	if !slices.Equal(l, list(193, 194, 193, 192, 5)) {
		t.Errorf("the list is %v", l)
	}
}

// P7.3: each block, of lists of all lengths, that hold any numbers.
func TestWith(t *testing.T) {
	for _, n := range lengths() {
		var image []int
		for block := range n {
			image = append(image, []int{0, -1, 193, math.MinInt, math.MaxInt}[block%5])
		}
		was := slices.Clone(image)
		for _, sector := range []int{0, 1, 192, 193, 1024, 1 << 40, math.MaxInt} {
			for block := range min(n, 40) {
				want := slices.Concat(was[:block], []int{sector}, was[block+1:])
				with(t, image, block, sector, want...)
			}
			if n > 0 {
				with(t, image, n-1, sector, append(slices.Clone(was[:n-1]), sector)...)
			}
			for _, block := range []int{math.MinInt, -n - 1, -2, -1, n, n + 1, n + 8, 1 << 40, math.MaxInt} {
				refused(t, image, block, sector)
			}
		}
		for _, sector := range []int{math.MinInt, -193, -2, -1} {
			for _, block := range []int{math.MinInt, -1, 0, n / 2, n - 1, n, math.MaxInt} {
				refused(t, image, block, sector)
			}
		}
		if !slices.Equal(image, was) {
			t.Errorf("With changed %v to %v", was, image)
		}
	}
	refused(t, nil, 0, 0)
	refused(t, []int{}, 0, 193)
}

// P7.3: the sector may be the one that is there.
func TestWithTheSame(t *testing.T) {
	with(t, list(193, 194, 0), 1, 194, 193, 194, 0)
	with(t, list(193, 194, 0), 2, 0, 193, 194, 0)
	with(t, list(193, 194, 0), 0, 0, 0, 194, 0)
	with(t, list(193, 194, 0), 2, 193, 193, 194, 193)
}

// R5: what was handed in is as it was and not kept, and what is answered is new.
func TestNothingKept(t *testing.T) {
	image := list(193, 0, 195)
	one, _ := With(image, 1, 194)
	other, _ := With(image, 1, 194)
	one[0], one[1], one[2] = 1, 2, 3
	if !slices.Equal(other, list(193, 194, 195)) || !slices.Equal(image, list(193, 0, 195)) {
		t.Errorf("With's answers share memory: %v, %v", other, image)
	}
	image[0] = 200
	if other[0] != 193 {
		t.Error("With keeps what was handed in")
	}
	one = append(one[:2], 9)
	if image[2] != 195 || other[2] != 195 {
		t.Error("With's answer goes on in another one")
	}

	a, b := list(1, 2, 3), list(0, 2)
	first, second := Diff(a, b), Diff(a, b)
	if !slices.Equal(a, list(1, 2, 3)) || !slices.Equal(b, list(0, 2)) {
		t.Errorf("Diff changed what was handed in: %v, %v", a, b)
	}
	first[0], first[1] = 7, 7
	if !slices.Equal(second, list(0, 2)) || !slices.Equal(a, list(1, 2, 3)) || !slices.Equal(b, list(0, 2)) {
		t.Error("Diff's answers share memory")
	}
	a[1] = 5
	if !slices.Equal(second, list(0, 2)) || !slices.Equal(Diff(a, b), list(0, 1, 2)) {
		t.Error("Diff keeps what was handed in")
	}
	differ(t, a, a)
}

// numbered answers the image that a number says, place by place: each is none, or one of some sectors, of any blocks.
func numbered(number, blocks int) []int {
	sectors := []int{0, 193, 194}
	image := make([]int, blocks)
	for block := range blocks {
		image[block] = sectors[number%3]
		number /= 3
	}
	return image
}

// same tells whether two lists say the same, places that one has not being 0.
func same(a, b []int) bool {
	for block := range max(len(a), len(b)) {
		if block < len(a) && block < len(b) {
			if a[block] != b[block] {
				return false
			}
		} else if block < len(a) && a[block] != 0 || block < len(b) && b[block] != 0 {
			return false
		}
	}
	return true
}

// P7.4: of all triples of images of three places, and shorter ones.
func TestDiffFollows(t *testing.T) {
	var all [][]int
	for blocks, numbers := range []int{1, 3, 9, 27} {
		for number := range numbers {
			all = append(all, numbered(number, blocks))
		}
	}
	for _, a := range all {
		for _, b := range all {
			ab := Diff(a, b)
			if (len(ab) == 0) != same(a, b) {
				t.Errorf("Diff(%v, %v): %v", a, b, ab)
			}
			if !slices.Equal(ab, Diff(b, a)) {
				t.Errorf("Diff(%v, %v) is not the same the other way round", a, b)
			}
			for _, c := range all {
				bc := Diff(b, c)
				for _, block := range Diff(a, c) {
					if !slices.Contains(ab, block) && !slices.Contains(bc, block) {
						t.Errorf("%d differs between %v and %v, but %v between them is like both there", block, a, c, b)
					}
				}
			}
		}
	}
}

// P7.5: an image that was checked stays so, if a block gets a free sector, or none.
func TestStaysChecked(t *testing.T) {
	const n = 199
	image := make([]int, 8)
	for step := range 500 {
		checks(t, image, 8, n, api.OK)
		for block := range image {
			none, e := With(image, block, 0)
			if e != api.OK {
				t.Fatalf("With none: %d", e)
			}
			checks(t, none, 8, n, api.OK)
			for sector := 193; sector < n; sector++ {
				if slices.Contains(image, sector) {
					continue
				}
				l, e := With(image, block, sector)
				if e != api.OK {
					t.Fatalf("With %d: %d", sector, e)
				}
				checks(t, l, 8, n, api.OK)
				if d := Diff(image, l); !slices.Equal(d, list(block)) {
					t.Errorf("Diff of %v and %v: %v", image, l, d)
				}
			}
		}
		sector := 193 + step*5%6
		if slices.Contains(image, sector) {
			sector = 0
		}
		image, _ = With(image, step*3%8, sector)
	}
}

// With a sector that is held by another block, or that may be none, it is checked no longer.
func TestNoLongerChecked(t *testing.T) {
	image := list(193, 0, 195)
	for _, x := range []struct {
		block, sector int
		want          api.Errno
	}{
		{1, 193, api.ErrTwice}, {0, 195, api.ErrTwice}, {2, 193, api.ErrTwice}, {1, 192, api.ErrArg}, {1, 1, api.ErrArg}, {1, 196, api.ErrArg}, {2, math.MaxInt, api.ErrArg}, {1, 194, api.OK}, {0, 193, api.OK},
	} {
		l, e := With(image, x.block, x.sector)
		if e != api.OK {
			t.Fatalf("With %d, %d: %d", x.block, x.sector, e)
		}
		checks(t, l, 3, 196, x.want)
	}
}

// R4: lists without elements and lists that are nil are the same.
func TestNone(t *testing.T) {
	for _, none := range [][]int{nil, {}, make([]int, 0, 9), list(193, 194)[:0]} {
		for blocks := -1; blocks < 10; blocks++ {
			checks(t, none, blocks, 1024, api.ErrArg)
		}
		differ(t, none, nil)
		differ(t, none, list(0, 4), 1)
		for block := -1; block < 3; block++ {
			refused(t, none, block, 0)
		}
	}
}

// FuzzCheck holds Check against what is told place by place.
func FuzzCheck(f *testing.F) {
	f.Add([]byte{0, 193, 200}, 3, 201)
	f.Add([]byte{193, 193, 1}, 3, 201)
	f.Add([]byte{193, 0, 0, 193}, 4, 500)
	f.Add([]byte{}, 0, 0)
	f.Fuzz(func(t *testing.T, data []byte, blocks, n int) {
		image := imageOf(data)
		want := api.OK
		for one, at := range image {
			if slices.Contains(image[:one], at) && at != 0 {
				want = api.ErrTwice
			}
		}
		for _, at := range image {
			if at != 0 && (at < 193 || at >= n) {
				want = api.ErrArg
			}
		}
		if blocks < 1 || blocks > 8 || len(image) != blocks {
			want = api.ErrArg
		}
		checks(t, image, blocks, n, want)
	})
}

// FuzzDiff holds Diff and With against what is told place by place.
func FuzzDiff(f *testing.F) {
	f.Add([]byte{0, 193}, []byte{194, 193}, 1, 7)
	f.Add([]byte{0, 0, 0, 0, 0, 0, 0, 0, 1}, []byte{}, 0, -1)
	f.Add([]byte{1, 2, 3, 4, 5, 6, 7, 8, 9}, []byte{1, 2, 3, 4, 5, 6, 7, 9, 9, 0}, 8, 0)
	f.Fuzz(func(t *testing.T, first, second []byte, block, sector int) {
		a, b := imageOf(first), imageOf(second)
		var want []int
		for i := range max(len(a), len(b)) {
			if !same(a[min(i, len(a)):min(i+1, len(a))], b[min(i, len(b)):min(i+1, len(b))]) {
				want = append(want, i)
			}
		}
		differ(t, a, b, want...)
		if block < 0 || block >= len(a) || sector < 0 {
			refused(t, a, block, sector)
			return
		}
		l, e := With(a, block, sector)
		if e != api.OK || len(l) != len(a) || l[block] != sector {
			t.Fatalf("With(%v, %d, %d): %v, %d", a, block, sector, l, e)
		}
		if a[block] != sector {
			differ(t, a, l, block)
		} else {
			differ(t, a, l)
		}
	})
}

// imageOf answers the places that bytes say.
func imageOf(data []byte) []int {
	var image []int
	for _, b := range data {
		image = append(image, int(b))
	}
	return image
}

// What README.md says of the package.
func Example() {
	was := []int{0, 193, 200}
	is, e := With(was, 0, 194)
	fmt.Println(Check(was, 3, 201), is, e, Diff(was, is), Check(was, 3, 200))
	is, e = With(was, 0, 193)
	fmt.Println(is, e, Check(is, 3, 201))
	// Output:
	// stemma: 0 [194 193 200] stemma: 0 [0] stemma: 2
	// [193 193 200] stemma: 0 stemma: 16
}
