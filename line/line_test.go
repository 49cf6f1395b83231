package line

import (
	"fmt"
	"math"
	"slices"
	"strconv"
	"strings"
	"testing"

	"stemma/api"
)

// most is the greatest number of an epoch and of a count.
const most = math.MaxUint64

// strange is a guid that no list holds on purpose.
var strange = api.Guid{Epoch: 77, Count: 77}

// guid answers the guid of that epoch and count.
func guid(epoch, count uint64) api.Guid { return api.Guid{Epoch: epoch, Count: count} }

// number answers the number that the text tells.
func number(text string) uint64 {
	if text == "most" {
		return most
	}
	n, e := strconv.ParseUint(text, 10, 64)
	if e != nil {
		panic(e)
	}
	return n
}

// guids answers those that the text tells, as 1.1 and 1.2.
func guids(text string) []api.Guid {
	var l []api.Guid
	for word := range strings.FieldsSeq(text) {
		epoch, count, _ := strings.Cut(word, ".")
		l = append(l, guid(number(epoch), number(count)))
	}
	return l
}

// line answers what is known, with the guids that the text tells.
func line(epoch uint64, before int, leased bool, list string) api.Line {
	return api.Line{Epoch: epoch, Before: before, Leased: leased, List: guids(list)}
}

// many answers so many guids of the epoch 1, each one above the one ahead.
func many(n int) []api.Guid {
	var l []api.Guid
	for i := range n {
		l = append(l, guid(1, uint64(i+1)))
	}
	return l
}

// with answers the list with another guid at that place.
func with(l []api.Guid, at int, g api.Guid) []api.Guid {
	l = slices.Clone(l)
	l[at] = g
	return l
}

// watched is a list that is handed in, and what is behind it, that is nobody's.
type watched struct{ list, all, was []api.Guid }

// watch answers the same list in memory of its own.
func watch(l []api.Guid) watched {
	all := append(slices.Clone(l), strange, strange, strange)
	return watched{list: all[:len(l)], all: all, was: slices.Clone(all)}
}

// watchLine answers the same line, its list in memory of its own.
func watchLine(l api.Line) (api.Line, watched) {
	w := watch(l.List)
	l.List = w.list
	return l, w
}

// stays asks that nothing of it is changed.
func (w watched) stays(t *testing.T, what string) {
	t.Helper()
	if !slices.Equal(w.all, w.was) {
		t.Errorf("%s: what was handed in is changed: %v, not %v", what, w.all, w.was)
	}
}

// spoil makes all others of the guids, and of those that there is room for.
func spoil(l []api.Guid) {
	l = l[:cap(l)]
	for i := range l {
		l[i] = guid(l[i].Epoch+1, 99)
	}
}

// alike tells whether both lines are alike in all.
func alike(a, b api.Line) bool {
	return a.Epoch == b.Epoch && a.Before == b.Before && a.Leased == b.Leased && slices.Equal(a.List, b.List)
}

// checks asks Check.
func checks(t *testing.T, l api.Line, want api.Errno) {
	t.Helper()
	x, w := watchLine(l)
	for range 2 {
		if got := Check(x); got != want {
			t.Errorf("Check(%+v): %d, not %d", l, got, want)
		}
	}
	w.stays(t, "Check")
}

// same asks Same, either one first.
func same(t *testing.T, a, b api.Line, want bool) {
	t.Helper()
	x, first := watchLine(a)
	y, second := watchLine(b)
	if got := Same(x, y); got != want {
		t.Errorf("Same(%+v, %+v): %v, not %v", a, b, got, want)
	}
	if got := Same(y, x); got != want {
		t.Errorf("Same(%+v, %+v): %v, not %v", b, a, got, want)
	}
	first.stays(t, "Same")
	second.stays(t, "Same")
}

// merges asks Merge, and that what it answers and what it is handed go their own ways.
func merges(t *testing.T, a, b, want api.Line) {
	t.Helper()
	what := fmt.Sprintf("Merge(%+v, %+v)", a, b)
	x, first := watchLine(a)
	y, second := watchLine(b)
	got, again := Merge(x, y), Merge(x, y)
	if !alike(got, want) {
		t.Errorf("%s: %+v, not %+v", what, got, want)
	}
	spoil(got.List)
	first.stays(t, what)
	second.stays(t, what)
	if !alike(again, want) {
		t.Errorf("%s: a change of one answer changes another one, or it is another one: %+v, not %+v", what, again, want)
	}
	spoil(first.all)
	spoil(second.all)
	if !alike(again, want) {
		t.Errorf("%s: a change of what was handed in changes the answer: %+v, not %+v", what, again, want)
	}
	// What is put behind the answer's list goes nowhere else.
	x, first = watchLine(a)
	y, second = watchLine(b)
	got = Merge(x, y)
	_ = append(got.List, guid(99, 99))
	first.stays(t, what)
	second.stays(t, what)
}

// common asks Common, either list first.
func common(t *testing.T, list []api.Guid, l api.Line, want int) {
	t.Helper()
	x, first := watchLine(l)
	second := watch(list)
	if got := Common(second.list, x); got != want {
		t.Errorf("Common(%v, %+v): %d, not %d", list, l, got, want)
	}
	other := x
	other.List = second.list
	if got := Common(first.list, other); got != want {
		t.Errorf("Common(%v, %+v): %d, not %d", l.List, other, got, want)
	}
	first.stays(t, "Common")
	second.stays(t, "Common")
}

// stays asks Stays.
func stays(t *testing.T, list []api.Guid, l api.Line, want int) {
	t.Helper()
	x, first := watchLine(l)
	second := watch(list)
	for range 2 {
		if got := Stays(second.list, x); got != want {
			t.Errorf("Stays(%v, %+v): %d, not %d", list, l, got, want)
		}
	}
	first.stays(t, "Stays")
	second.stays(t, "Stays")
}

// The chapter's table, row by row.
func TestExamples(t *testing.T) {
	for _, x := range []struct{ a, b api.Line }{
		{line(2, 0, false, "1.1"), line(3, 1, false, "1.1")},
		{line(2, 0, false, "1.1"), line(2, 0, false, "1.1 2.1")},
		{line(2, 0, false, "1.1"), line(2, 0, true, "1.1")},
		{line(2, 0, true, "1.1"), line(2, 0, false, "1.1 2.1")},
	} {
		merges(t, x.a, x.b, x.b)
	}
	common(t, guids("1.1 1.2 1.3"), line(2, 0, false, "1.1 1.2 2.1"), 2)
	stays(t, guids("1.1 1.2 2.1 1.9"), line(2, 2, false, "1.1 1.2"), 3)
	stays(t, guids("1.1 1.2"), line(2, 2, false, "1.1 1.2 2.1"), 2)
	stays(t, guids("1.1 1.3"), line(2, 2, false, "1.1 1.2"), 1)
	stays(t, guids("1.1 1.2"), line(2, 1, false, "1.1"), 1)
}

// P14.1: a line of zeros, and lists of all lengths.
func TestCheckLengths(t *testing.T) {
	checks(t, api.Line{}, api.OK)
	checks(t, api.Line{List: []api.Guid{}}, api.OK)
	checks(t, api.Line{Epoch: most, Leased: true}, api.OK)
	for n := range 21 {
		for _, before := range []int{0, n / 2, n} {
			checks(t, api.Line{Epoch: 1, Before: before, List: many(n)}, api.OK)
			checks(t, api.Line{Epoch: 1, Before: before, Leased: true, List: many(n)}, api.OK)
			checks(t, api.Line{Epoch: 9, Before: before, List: many(n)}, api.OK)
		}
	}
	for _, n := range []int{21, 22, 40, 255, 256, 257, 1000, 1<<16 + 1} {
		checks(t, api.Line{Epoch: 1, List: many(n)}, api.ErrLong)
		checks(t, api.Line{List: make([]api.Guid, n)}, api.ErrLong)
	}
	// That there are too many is told ahead of all else.
	for _, before := range []int{math.MinInt, -1, 22, math.MaxInt} {
		checks(t, api.Line{Epoch: 1, Before: before, List: many(21)}, api.ErrLong)
		checks(t, api.Line{Epoch: 1, Before: before, List: many(20)}, api.ErrArg)
	}
	for at := range 21 {
		for _, g := range guids("0.0 0.1 2.1 1.0 most.most") {
			checks(t, api.Line{Epoch: 1, List: with(many(21), at, g)}, api.ErrLong)
		}
	}
	checks(t, api.Line{List: make([]api.Guid, 20)}, api.ErrArg)
	checks(t, api.Line{List: make([]api.Guid, 1)}, api.ErrArg)
}

// P14.1: guids of zeros, the same ones, and lesser ones, at each place.
func TestCheckGuids(t *testing.T) {
	for _, n := range []int{1, 2, 3, 7, 20} {
		for at := range n {
			checks(t, api.Line{Epoch: 1, List: with(many(n), at, api.Guid{})}, api.ErrArg)
			if at == 0 {
				continue
			}
			last := many(n)[at-1]
			checks(t, api.Line{Epoch: 1, List: with(many(n), at, last)}, api.ErrArg)
			checks(t, api.Line{Epoch: 1, List: with(many(n), at, guid(1, last.Count-1))}, api.ErrArg)
			checks(t, api.Line{Epoch: 1, List: with(many(n), at, guid(0, last.Count+1))}, api.ErrArg)
			checks(t, api.Line{Epoch: 1, List: with(many(n), at, guid(0, most))}, api.ErrArg)
		}
	}
	for _, x := range []struct {
		list string
		want api.Errno
	}{
		{"0.1", api.OK},
		{"1.0", api.OK},
		{"0.1 0.2", api.OK},
		{"1.0 1.1", api.OK},
		{"0.1 1.0 1.1 2.0", api.OK},
		{"1.1 1.2", api.OK},
		{"1.1 1.9", api.OK},
		{"1.9 2.1", api.OK},
		{"1.9 2.9", api.OK},
		{"1.most 2.0", api.OK},
		{"1.2 2.1 3.1 3.2", api.OK},
		{"1.1 1.1", api.ErrArg},
		{"1.2 1.1", api.ErrArg},
		{"1.2 1.0", api.ErrArg},
		{"2.1 1.1", api.ErrArg},
		{"2.1 1.2", api.ErrArg},
		{"2.1 0.9", api.ErrArg},
		{"1.1 2.1 1.2", api.ErrArg},
		{"1.1 1.2 1.2", api.ErrArg},
		{"1.1 1.3 1.2", api.ErrArg},
		// Above the first one, though not above the one ahead.
		{"1.1 2.2 2.1", api.ErrArg},
		{"1.1 3.1 2.1", api.ErrArg},
		{"0.0", api.ErrArg},
		{"0.0 1.1", api.ErrArg},
		{"1.1 0.0", api.ErrArg},
		{"1.1 0.0 1.2", api.ErrArg},
		{"0.0 0.0", api.ErrArg},
		{"0.4294967296", api.OK},
		{"4294967296.0", api.OK},
		{"1.4294967295 1.4294967296", api.OK},
		{"1.4294967296 1.1", api.ErrArg},
		{"1.9223372036854775807 1.9223372036854775808", api.OK},
		{"1.9223372036854775808 1.9223372036854775807", api.ErrArg},
		{"9223372036854775807.1 9223372036854775808.1", api.OK},
		{"9223372036854775808.1 9223372036854775807.1", api.ErrArg},
		{"most.1 most.most", api.OK},
		{"most.most most.most", api.ErrArg},
		{"most.most 0.0", api.ErrArg},
		{"1.most 1.0", api.ErrArg},
	} {
		checks(t, line(most, 0, false, x.list), x.want)
		checks(t, line(most, len(guids(x.list)), true, x.list), x.want)
	}
}

// P14.1: how many there were ahead of the epoch.
func TestCheckBefore(t *testing.T) {
	for _, n := range []int{0, 1, 2, 3, 19, 20} {
		for before := -3; before <= n+3; before++ {
			want := api.ErrArg
			if before >= 0 && before <= n {
				want = api.OK
			}
			checks(t, api.Line{Epoch: 1, Before: before, List: many(n)}, want)
		}
		for _, before := range []int{math.MinInt, math.MinInt + 1, math.MinInt32, -1 << 32, 1 << 31, 1 << 32, 1<<32 + 1, math.MaxInt - 1, math.MaxInt} {
			checks(t, api.Line{Epoch: 1, Before: before, List: many(n)}, api.ErrArg)
		}
	}
	// Nothing asks that the guids ahead are of older epochs, or those behind of the line's own.
	checks(t, line(2, 2, false, "1.1 2.1 2.2"), api.OK)
	checks(t, line(2, 0, false, "1.1 1.2"), api.OK)
	checks(t, line(2, 3, true, "2.1 2.2 2.3"), api.OK)
}

// P14.1: guids of the line's own epoch, and above it.
func TestCheckEpoch(t *testing.T) {
	for _, epoch := range []uint64{1, 2, 1 << 31, 1 << 32, 1 << 63, most - 1, most} {
		for _, n := range []int{1, 2, 5, 20} {
			var own []api.Guid
			for i := range n {
				own = append(own, guid(epoch, uint64(i+1)))
			}
			checks(t, api.Line{Epoch: epoch, List: own}, api.OK)
			checks(t, api.Line{Epoch: epoch - 1, List: own}, api.ErrArg)
			checks(t, api.Line{Epoch: 0, List: own}, api.ErrArg)
			if epoch < most {
				checks(t, api.Line{Epoch: epoch + 1, List: own}, api.OK)
				checks(t, api.Line{Epoch: epoch, List: with(own, n-1, guid(epoch+1, 0))}, api.ErrArg)
				checks(t, api.Line{Epoch: epoch, List: with(own, n-1, guid(most, most))}, api.ErrArg)
			}
		}
	}
	// The one above the line's epoch is the first, the second or the last one.
	checks(t, line(2, 0, false, "3.1"), api.ErrArg)
	checks(t, line(2, 0, false, "3.1 3.2"), api.ErrArg)
	checks(t, line(2, 0, false, "1.1 3.1 3.2"), api.ErrArg)
	checks(t, line(2, 0, false, "1.1 2.1 3.1"), api.ErrArg)
	checks(t, line(3, 0, false, "1.1 2.1 3.1"), api.OK)
	checks(t, line(0, 0, false, "0.1 0.2"), api.OK)
	checks(t, line(0, 0, false, "0.1 1.0"), api.ErrArg)
	checks(t, line(most, 1, true, "most.most"), api.OK)
	checks(t, line(most-1, 1, true, "most.most"), api.ErrArg)
}

// P14.1: lines that differ in one field alone, in one guid alone, and in how many guids they have.
func TestSame(t *testing.T) {
	if !Same(api.Line{}, api.Line{List: []api.Guid{}}) || !Same(api.Line{List: []api.Guid{}}, api.Line{}) {
		t.Error("lists without guids are not the same")
	}
	lines := []api.Line{
		{}, line(1, 0, false, ""), line(2, 1, true, "1.1 2.1"), line(2, 1, true, "1.2 2.1"), line(0, -1, false, "0.0 0.0"),
		line(most, math.MaxInt, true, "most.most"), {Epoch: 1, List: many(20)}, {Epoch: 1, List: many(21)}, {Epoch: 1, List: many(300)},
	}
	for i, a := range lines {
		for j, b := range lines {
			same(t, a, b, i == j)
		}
		for _, by := range []uint64{1, 1 << 31, 1 << 32, 1 << 63, most} {
			b := a
			b.Epoch ^= by
			same(t, a, b, false)
			b = a
			b.Before ^= int(by)
			same(t, a, b, false)
			for at, g := range a.List[:min(len(a.List), 21)] {
				b = a
				b.List = with(a.List, at, guid(g.Epoch^by, g.Count))
				same(t, a, b, false)
				b.List = with(a.List, at, guid(g.Epoch, g.Count^by))
				same(t, a, b, false)
			}
		}
		b := a
		b.Leased = !a.Leased
		same(t, a, b, false)
		for n := range min(len(a.List), 21) {
			b = a
			b.List = a.List[:n]
			same(t, a, b, false)
			b.List = a.List[n+1:]
			same(t, a, b, false)
		}
		b = a
		b.List = append(slices.Clone(a.List), api.Guid{})
		same(t, a, b, false)
	}
	// In another order they are others.
	same(t, line(1, 0, false, "1.1 1.2"), line(1, 0, false, "1.2 1.1"), false)
	same(t, line(1, 0, false, "1.2"), line(1, 0, false, "2.1"), false)
	// The numbers of two fields are not those of another line that are the other way round.
	same(t, line(1, 2, false, ""), line(2, 1, false, ""), false)
}

// ranked are lines, each of which is further than the ones ahead, but for those of its own row, of which neither is.
func ranked() [][]api.Line {
	return [][]api.Line{
		{line(0, 0, false, ""), line(0, 9, false, ""), line(0, -1, false, "")},
		{line(0, 0, true, ""), line(0, math.MaxInt, true, "")},
		{line(0, 0, false, "0.0"), line(0, 0, false, "7.7")},
		{line(0, 0, false, "0.0 0.0"), line(0, 2, false, "9.9 1.1")},
		{line(1, 0, false, "")},
		{line(1, 0, true, ""), line(1, 1, true, "")},
		{line(1, 0, false, "1.1"), line(1, 1, false, "1.1"), line(1, 0, false, "1.2"), line(1, 0, false, "0.0"), line(1, math.MinInt, false, "most.most")},
		{line(1, 0, true, "1.1"), line(1, 1, true, "1.1"), line(1, 0, true, "1.2")},
		{line(1, 0, false, "1.1 1.2"), line(1, 2, false, "1.1 1.2"), line(1, 0, false, "1.1 1.3")},
		{line(1, 0, true, "1.1 1.2"), line(1, 0, true, "1.2 1.1")},
		{{Epoch: 1, List: many(20)}, {Epoch: 1, List: many(21)[1:]}},
		{{Epoch: 1, List: many(21)}, {Epoch: 1, List: make([]api.Guid, 21)}},
		{{Epoch: 1, Leased: true, List: many(300)}},
		{line(2, 0, false, ""), line(2, 5, false, "")},
		{line(2, 0, true, "1.1 2.1"), line(2, 1, true, "1.1 2.1"), line(2, 1, true, "1.1 2.2")},
		{line(1<<32, 0, false, "")},
		{line(1<<32+1, 0, false, "")},
		{line(1<<63-1, 0, true, "1.1")},
		{line(1<<63, 0, false, "")},
		{line(most-1, 0, true, "1.1 2.1 3.1")},
		{line(most, 0, false, ""), line(most, math.MaxInt, false, "")},
		{line(most, 0, false, "most.most"), line(most, 1, false, "1.1")},
		{line(most, 0, true, "most.most")},
	}
}

// P14.2, P14.5: each two of many lines, both ways round.
func TestMerge(t *testing.T) {
	rows := ranked()
	for i, row := range rows {
		for _, a := range row {
			for j, others := range rows {
				for _, b := range others {
					if j > i {
						merges(t, a, b, b)
					} else {
						merges(t, a, b, a)
					}
				}
			}
		}
	}
}

// P14.2: what differs first counts, whatever the rest says.
func TestMergeOrder(t *testing.T) {
	for _, x := range []struct{ far, near api.Line }{
		{line(3, 0, false, ""), line(2, 9, true, "1.1 1.2 2.1")},
		{line(2, 0, false, "1.1 1.2"), line(2, 1, true, "9.9")},
		{line(2, 0, true, "1.1"), line(2, 9, false, "9.9")},
		{line(1<<32, 0, false, ""), line(1<<32-1, 0, true, "1.1")},
		{line(1<<63, 0, false, ""), line(1<<63-1, 0, true, "1.1")},
	} {
		merges(t, x.near, x.far, x.far)
		merges(t, x.far, x.near, x.far)
	}
	// Neither is further: the first one is answered.
	for _, x := range []struct{ a, b api.Line }{
		{line(2, 0, true, "1.1 2.1"), line(2, 1, true, "1.1 2.1")},
		{line(2, 1, false, "1.1 2.1"), line(2, 1, false, "1.1 2.2")},
		{line(2, 0, false, "1.1"), line(2, 0, false, "1.9")},
		{line(2, 0, false, ""), line(2, 5, false, "")},
	} {
		merges(t, x.a, x.b, x.a)
		merges(t, x.b, x.a, x.b)
	}
}

// P14.2: lists that are nil and empty, one line twice, and lists that share memory.
func TestMergeSameMemory(t *testing.T) {
	merges(t, api.Line{}, api.Line{List: []api.Guid{}}, api.Line{})
	merges(t, api.Line{List: []api.Guid{}}, api.Line{}, api.Line{})
	list := many(5)
	a := api.Line{Epoch: 1, List: list[:3]}
	for _, b := range []api.Line{a, {Epoch: 1, List: list[:4]}, {Epoch: 2, List: list[1:3]}, {Epoch: 1, Before: 1, List: list[2:]}} {
		got := Merge(a, b)
		got.List = append(got.List, strange)
		spoil(got.List)
		if !slices.Equal(list, many(5)) {
			t.Fatalf("Merge(%+v, %+v): what was handed in is changed: %v", a, b, list)
		}
	}
}

// P14.3: how many are common, with whatever else the line has.
func TestCommon(t *testing.T) {
	for _, x := range []struct {
		a, b string
		want int
	}{
		{"", "", 0},
		{"1.1", "", 0},
		{"1.1 1.2 1.3", "", 0},
		{"1.1", "1.1", 1},
		{"1.1 1.2 1.3", "1.1 1.2 1.3", 3},
		{"1.1", "1.1 1.2 1.3", 1},
		{"1.1 1.2", "1.1 1.2 1.3", 2},
		{"1.1 1.2 1.3", "2.2 2.3 2.4", 0},
		{"1.1 1.2 1.3", "9.9 1.2 1.3", 0},
		{"1.1 1.2 1.3", "1.1 9.9 1.3", 1},
		{"1.1 1.2 1.3", "1.1 1.2 9.9", 2},
		{"1.1 1.2 1.3 1.4", "1.1 1.2 9.9 1.4", 2},
		{"1.1 1.2", "1.2 1.1", 0},
		{"1.1 1.2", "1.2", 0},
		{"1.1", "1.2", 0},
		{"1.1", "2.1", 0},
		{"1.2", "2.1", 0},
		{"1.1 1.1 1.1", "1.1 1.1", 2},
		{"0.0", "0.0", 1},
		{"0.0 0.0 5.5", "0.0 0.0 5.6", 2},
		{"0.0", "", 0},
		{"most.most", "most.most", 1},
		{"most.0", "0.most", 0},
		{"1.1", "1.4294967297", 0},
		{"1.1", "4294967297.1", 0},
	} {
		for _, l := range []api.Line{line(1, 0, false, x.b), line(most, -5, true, x.b), line(0, math.MaxInt, false, x.b)} {
			common(t, guids(x.a), l, x.want)
		}
	}
	common(t, []api.Guid{}, api.Line{}, 0)
	common(t, nil, api.Line{List: []api.Guid{}}, 0)
	for _, n := range []int{1, 2, 19, 20, 21, 300} {
		common(t, many(n), api.Line{List: many(n)}, n)
		common(t, many(n), api.Line{List: many(n + 1)}, n)
		for at := range n {
			common(t, many(n), api.Line{List: with(many(n), at, strange)}, at)
			common(t, many(n), api.Line{List: many(at)}, at)
		}
	}
}

// P14.3: how many stay.
func TestStays(t *testing.T) {
	for _, x := range []struct {
		what, list string
		epoch      uint64
		known      string
		want       int
	}{
		{"no guids", "", 3, "1.1 1.2", 0},
		{"no guids, and none known", "", 3, "", 0},
		{"all", "1.1 1.2", 3, "1.1 1.2", 2},
		{"a beginning", "1.1", 3, "1.1 1.2 3.1", 1},
		{"more, of the epoch", "1.1 1.2 3.1", 3, "1.1 1.2", 3},
		{"more, of the epoch, two", "1.1 1.2 3.1 3.2", 3, "1.1 1.2", 4},
		{"more, of a later epoch", "1.1 1.2 4.1", 3, "1.1 1.2", 3},
		{"more, of the epoch and later ones", "1.1 3.1 4.1 9.1", 3, "1.1", 4},
		{"more, of a much later epoch", "1.1 most.1", 3, "1.1", 2},
		{"more, of an earlier epoch", "1.1 1.2 1.3", 3, "1.1 1.2", 2},
		{"more, of the epoch just ahead", "1.1 1.2 2.9", 3, "1.1 1.2", 2},
		{"more, of the epoch 0", "1.1 0.9", 3, "1.1", 1},
		{"more, an earlier one last", "1.1 3.1 2.1", 3, "1.1", 2},
		{"more, an earlier one first", "1.1 2.1 3.1", 3, "1.1", 1},
		{"more, an earlier one between", "1.1 3.1 2.1 3.2", 3, "1.1", 2},
		{"more, an earlier one between later ones", "1.1 4.1 2.1 9.9 9.10", 3, "1.1", 2},
		{"none known, of the epoch", "3.1 3.2", 3, "", 2},
		{"none known, of an earlier one", "2.1 3.2", 3, "", 0},
		{"none known, an earlier one behind", "3.1 2.2 3.2", 3, "", 1},
		{"none known, no epoch", "1.1 0.0 2.1", 0, "", 3},
		{"they part at once", "3.1", 3, "1.1", 0},
		{"they part at once, of the epoch", "3.1 3.2", 3, "1.1 1.2", 0},
		{"they part at the last one", "1.1 3.2", 3, "1.1 3.1", 1},
		{"they part, and the list is longer", "1.1 3.2 3.3 3.4", 3, "1.1 3.1", 1},
		{"they part, and are alike again behind", "1.1 3.2 3.3", 3, "1.1 3.1 3.3", 1},
		{"they part, and the list is of a later epoch", "1.1 9.1", 3, "1.1 3.1", 1},
		{"the highest epoch", "1.1 most.1", most, "1.1", 2},
		{"below the highest epoch", "1.1 18446744073709551614.1", most, "1.1", 1},
		{"the epoch is half of all", "1.1 9223372036854775808.1 9223372036854775807.1", 1 << 63, "1.1", 2},
		{"the epoch is 2^32", "1.1 4294967296.1 1.9", 1 << 32, "1.1", 2},
		{"guids of zeros", "0.0 0.0 0.0", 0, "0.0", 3},
		{"guids of zeros, of the epoch 1", "0.0 0.0 0.0", 1, "0.0", 1},
		{"the same one twice", "1.1 3.1 3.1 3.1", 3, "1.1", 4},
	} {
		for _, before := range []int{math.MinInt, -1, 0, 1, 2, math.MaxInt} {
			for _, leased := range []bool{false, true} {
				stays(t, guids(x.list), line(x.epoch, before, leased, x.known), x.want)
			}
		}
	}
	stays(t, []api.Guid{}, api.Line{List: []api.Guid{}}, 0)
	for _, n := range []int{1, 5, 20, 21, 100} {
		for known := range n + 1 {
			stays(t, many(n), api.Line{Epoch: 1, List: many(known)}, n)
			stays(t, many(n), api.Line{Epoch: 2, List: many(known)}, known)
			stays(t, many(known), api.Line{Epoch: 2, List: many(n)}, known)
		}
	}
}

// follows asks P14.4 of a list and a line.
func follows(t *testing.T, list []api.Guid, l api.Line) {
	t.Helper()
	same, n := Common(list, l), Stays(list, l)
	if same > n || n > len(list) {
		t.Fatalf("Stays(%v, %+v): %d, of %d that are common", list, l, n, same)
	}
	if !slices.Equal(list[:same], l.List[:same]) {
		t.Fatalf("Common(%v, %+v): %d", list, l, same)
	}
	goesOn := same == len(l.List)
	older := -1 // the first one behind the common ones that is of an earlier epoch
	for i, g := range list {
		if i >= same && older < 0 && g.Epoch < l.Epoch {
			older = i
		}
		if i < n {
			continue
		}
		if i < len(l.List) && l.List[i] == g && i == same {
			t.Fatalf("Stays(%v, %+v): %d: %v goes, though it is in its place", list, l, n, g)
		}
		if goesOn && (older < 0 || i < older) {
			t.Fatalf("Stays(%v, %+v): %d: %v goes, behind none of an earlier epoch", list, l, n, g)
		}
	}
	if goesOn && older >= 0 && n > older {
		t.Fatalf("Stays(%v, %+v): %d: %v stays, of an earlier epoch", list, l, n, list[older])
	}
	// What is committed stays with whoever has it (W2): once more, and where more is known of the same lineage.
	if again := Stays(list[:n], l); again != n {
		t.Fatalf("Stays(%v, %+v): %d, once more %d", list, l, n, again)
	}
	further := l
	further.List = append(slices.Clone(l.List), strange)
	if more := Stays(list, further); more < same {
		t.Fatalf("Stays(%v, %+v): %d, with one more %d", list, l, n, more)
	}
}

// merged asks P14.5 of two lines.
func merged(t *testing.T, a, b api.Line) {
	t.Helper()
	x, y := Merge(a, b), Merge(b, a)
	if !alike(x, a) && !alike(x, b) {
		t.Fatalf("Merge(%+v, %+v): %+v, that is neither", a, b, x)
	}
	for _, other := range []api.Line{a, b, y} {
		if plainFurther(other, x) {
			t.Fatalf("Merge(%+v, %+v): %+v: %+v is further", a, b, x, other)
		}
	}
	if (plainFurther(a, b) || plainFurther(b, a)) && !alike(x, y) {
		t.Fatalf("Merge(%+v, %+v): %+v; the other way round %+v", a, b, x, y)
	}
	if plainFurther(a, b) && plainFurther(b, a) {
		t.Fatalf("%+v, %+v: each is further", a, b)
	}
}

// P14.4 (W1, W2): drawn lists and lines.
func TestWhatStays(t *testing.T) {
	var on, parts, gone, longer int
	for seed := range uint64(40000) {
		draw := draws(seed)
		list, l := drawnPair(draw)
		follows(t, list, l)
		same, n := Common(list, l), Stays(list, l)
		switch {
		case same < min(len(list), len(l.List)):
			parts++
		case len(list) > len(l.List) && n > same && n < len(list):
			gone++
		case len(list) > len(l.List):
			on++
		case len(list) < len(l.List):
			longer++
		}
	}
	if on < 1000 || parts < 1000 || gone < 300 || longer < 1000 {
		t.Errorf("the draws say little: %d, %d, %d, %d", on, parts, gone, longer)
	}
}

// P14.5: drawn lines.
func TestWhatIsMerged(t *testing.T) {
	var first, second, neither int
	for seed := range uint64(40000) {
		draw := draws(seed)
		a, b := drawnLines(draw)
		merged(t, a, b)
		switch {
		case plainFurther(a, b):
			first++
		case plainFurther(b, a):
			second++
		default:
			neither++
		}
	}
	if first < 1000 || second < 1000 || neither < 1000 {
		t.Errorf("the draws say little: %d, %d, %d", first, second, neither)
	}
}

// R6: the same calls answer the same, whatever was asked between them.
func TestAgain(t *testing.T) {
	a, b := line(2, 0, false, "1.1"), line(2, 0, true, "1.2")
	for seed := range uint64(500) {
		draw := draws(seed)
		list, l := drawnPair(draw)
		Check(l)
		Merge(l, a)
		Common(list, l)
		Stays(list, l)
		Same(l, a)
		checks(t, a, api.OK)
		merges(t, a, b, b)
		common(t, guids("1.1 2.1"), a, 1)
		stays(t, guids("1.1 2.1 1.3"), a, 2)
		same(t, a, b, false)
	}
}

// What README.md says of the package.
func Example() {
	one, two, late := guid(1, 1), guid(1, 2), guid(3, 1)
	known := api.Line{Epoch: 3, Before: 1, List: []api.Guid{one}}
	fmt.Println(Check(known))
	mine := []api.Guid{one, two, late}
	fmt.Println(Common(mine, known), Stays(mine, known))
	mine = []api.Guid{one, late}
	fmt.Println(Stays(mine, known))
	news := api.Line{Epoch: 3, Before: 1, Leased: true, List: mine}
	merged := Merge(known, news)
	fmt.Println(Same(merged, news))
	news.Epoch = 2
	fmt.Println(Check(news), Same(Merge(known, news), known))
	// Output:
	// stemma: 0
	// 1 1
	// 2
	// true
	// stemma: 2 true
}
