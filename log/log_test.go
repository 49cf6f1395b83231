package log

import (
	"fmt"
	"math"
	"slices"
	"strconv"
	"strings"
	"testing"

	"stemma/api"
)

// most is the greatest number of a term and of a guid.
const most = math.MaxUint64

// kinds are the letters of the kinds, from 0 on: z and x are those of none, 0 and 4.
const kinds = "zescx"

// strange is an entry that no list holds on purpose.
var strange = api.Entry{Term: 77, Kind: 77, Guid: api.Guid{Epoch: 77, Count: 77}}

// guid answers the guid of that epoch and count.
func guid(epoch, count uint64) api.Guid { return api.Guid{Epoch: epoch, Count: count} }

// number answers the number that the text tells.
func number(text string) uint64 {
	n, e := strconv.ParseUint(text, 10, 64)
	if e != nil {
		panic(e)
	}
	return n
}

// guids answers those that the text tells, as 1.1 and 1.2.
func guids(text string) []api.Guid {
	var l []api.Guid
	for word := range strings.FieldsSeq(text) {
		epoch, count, _ := strings.Cut(word, ".")
		l = append(l, guid(number(epoch), number(count)))
	}
	return l
}

// entries answers those that the text tells as the chapter does, as 1e, 1s and 1c1.1.
func entries(text string) []api.Entry {
	var l []api.Entry
	for word := range strings.FieldsSeq(text) {
		at := strings.IndexAny(word, kinds)
		e := api.Entry{Term: number(word[:at]), Kind: strings.IndexByte(kinds, word[at])}
		for _, g := range guids(word[at+1:]) {
			e.Guid = g
		}
		l = append(l, e)
	}
	return l
}

// line answers what is known.
func line(epoch uint64, before int, leased bool, list string) api.Line {
	return api.Line{Epoch: epoch, Before: before, Leased: leased, List: guids(list)}
}

// numbers are those that are asked of a list of so many entries: all near its ends, and some far beyond.
func numbers(length int) []int {
	l := []int{math.MinInt, math.MinInt + 1, math.MinInt32, -1 << 32, -300, -2}
	for n := -1; n <= length+2; n++ {
		l = append(l, n)
	}
	return append(l, 1<<31, 1<<32, 1<<32+1, math.MaxInt-1, math.MaxInt)
}

// watched is a list that is handed in, and what is behind it, that is nobody's.
type watched struct{ list, all, was []api.Entry }

// watch answers the same list in memory of its own.
func watch(l []api.Entry) watched {
	all := append(slices.Clone(l), strange, strange, strange)
	return watched{list: all[:len(l)], all: all, was: slices.Clone(all)}
}

// stays asks that nothing of it is changed.
func (w watched) stays(t *testing.T, what string) {
	t.Helper()
	if !slices.Equal(w.all, w.was) {
		t.Errorf("%s: what was handed in is changed: %v, not %v", what, w.all, w.was)
	}
}

// spoil makes all others of the entries, and of those that there is room for.
func spoil(l []api.Entry) {
	l = l[:cap(l)]
	for i := range l {
		l[i] = api.Entry{Term: l[i].Term + 1, Kind: 99, Guid: guid(99, uint64(i))}
	}
}

// checks asks Check.
func checks(t *testing.T, l []api.Entry, want api.Errno) {
	t.Helper()
	w := watch(l)
	for range 2 {
		if got := Check(w.list); got != want {
			t.Errorf("Check(%v): %d, not %d", l, got, want)
		}
	}
	w.stays(t, "Check")
}

// same asks Same, either one first.
func same(t *testing.T, a, b []api.Entry, want bool) {
	t.Helper()
	x, y := watch(a), watch(b)
	if got := Same(x.list, y.list); got != want {
		t.Errorf("Same(%v, %v): %v, not %v", a, b, got, want)
	}
	if got := Same(y.list, x.list); got != want {
		t.Errorf("Same(%v, %v): %v, not %v", b, a, got, want)
	}
	x.stays(t, "Same")
	y.stays(t, "Same")
}

// fits asks Fits.
func fits(t *testing.T, l []api.Entry, prev int, term uint64, want bool) {
	t.Helper()
	w := watch(l)
	if got := Fits(w.list, prev, term); got != want {
		t.Errorf("Fits(%v, %d, %d): %v, not %v", l, prev, term, got, want)
	}
	w.stays(t, "Fits")
}

// newer asks Newer.
func newer(t *testing.T, term uint64, n int, l []api.Entry, want bool) {
	t.Helper()
	w := watch(l)
	if got := Newer(term, n, w.list); got != want {
		t.Errorf("Newer(%d, %d, %v): %v, not %v", term, n, l, got, want)
	}
	w.stays(t, "Newer")
}

// joins asks Join, and that what it answers and what it is handed go their own ways.
func joins(t *testing.T, l []api.Entry, prev int, more, want []api.Entry) {
	t.Helper()
	what := fmt.Sprintf("Join(%v, %d, %v)", l, prev, more)
	a, b := watch(l), watch(more)
	got, again := Join(a.list, prev, b.list), Join(a.list, prev, b.list)
	if !slices.Equal(got, want) {
		t.Errorf("%s: %v, not %v", what, got, want)
	}
	spoil(got)
	a.stays(t, what)
	b.stays(t, what)
	if !slices.Equal(again, want) {
		t.Errorf("%s: a change of one answer changes another one, or it is another one: %v, not %v", what, again, want)
	}
	spoil(a.all)
	spoil(b.all)
	if !slices.Equal(again, want) {
		t.Errorf("%s: a change of what was handed in changes the answer: %v, not %v", what, again, want)
	}
	// Without room behind their ends the answer is the same.
	if got := Join(slices.Clip(slices.Clone(l)), prev, slices.Clip(slices.Clone(more))); !slices.Equal(got, want) {
		t.Errorf("%s: %v, not %v, of lists without room", what, got, want)
	}
}

// alike tells whether both lines are alike in all.
func alike(a, b api.Line) bool {
	return a.Epoch == b.Epoch && a.Before == b.Before && a.Leased == b.Leased && slices.Equal(a.List, b.List)
}

// folds asks Fold, and that each answer goes its own way.
func folds(t *testing.T, l []api.Entry, commit int, want api.Line) {
	t.Helper()
	what := fmt.Sprintf("Fold(%v, %d)", l, commit)
	w := watch(l)
	got, again := Fold(w.list, commit), Fold(w.list, commit)
	if !alike(got, want) {
		t.Errorf("%s: %+v, not %+v", what, got, want)
	}
	room := got.List[:cap(got.List)]
	for i := range room {
		room[i] = guid(99, 99)
	}
	w.stays(t, what)
	spoil(w.all)
	if !alike(again, want) {
		t.Errorf("%s: it changes with what is not its own, or is another one: %+v, not %+v", what, again, want)
	}
}

// The chapter's table, row by row.
func TestExamples(t *testing.T) {
	checks(t, entries("1e 1s 1c1.1 2e"), api.OK)
	checks(t, entries("2e 1s"), api.ErrArg)
	checks(t, entries("0e"), api.ErrArg)
	checks(t, entries("1e1.1"), api.ErrArg)
	checks(t, entries("1c0.1"), api.ErrArg)

	fits(t, entries("1e 2e"), 2, 2, true)
	fits(t, entries("1e 2e"), 2, 1, false)
	fits(t, entries("1e"), 0, 0, true)
	fits(t, nil, 0, 1, false)

	joins(t, entries("1e 1s"), 1, entries("2e"), entries("1e 2e"))
	joins(t, entries("1e 1s"), 0, entries("1e"), entries("1e 1s"))
	joins(t, entries("1e 1s"), 2, entries("1c1.1"), entries("1e 1s 1c1.1"))
	joins(t, entries("1e"), 2, entries("2e"), entries("1e"))

	newer(t, 2, 1, entries("1e 1s"), true)
	newer(t, 1, 1, entries("1e 1s"), false)
	newer(t, 1, 2, entries("1e 1s"), true)
	newer(t, 0, 0, nil, true)

	l := entries("1e 1s 1c1.1 3e")
	folds(t, l, 4, line(3, 1, false, "1.1"))
	folds(t, l, 3, line(1, 0, true, "1.1"))
	folds(t, l, 1, line(1, 0, false, ""))

	folds(t, entries("1e 2c1.1 1c1.1 1c1.1 1c1.3"), 5, line(1, 0, false, "1.1 1.3"))
}

// many answers so many entries that may stand in a log.
func many(n int) []api.Entry {
	l := entries("1e 1s")
	for i := len(l); i < n; i++ {
		l = append(l, api.Entry{Term: 1, Kind: api.EntCommit, Guid: guid(1, uint64(i))})
	}
	return l[:n]
}

// with answers the list with another entry of that number.
func with(l []api.Entry, number int, e api.Entry) []api.Entry {
	l = slices.Clone(l)
	l[number-1] = e
	return l
}

// P13.1: how many entries there may be; that there are too many is told ahead of all else.
func TestCheckLengths(t *testing.T) {
	checks(t, nil, api.OK)
	checks(t, []api.Entry{}, api.OK)
	for _, text := range []string{"1e", "1s", "1c1.1"} {
		checks(t, entries(text), api.OK)
	}
	for _, n := range []int{1, 2, 3, 60, 255, 256, 257, 299, 300} {
		checks(t, many(n), api.OK)
	}
	for _, n := range []int{301, 302, 600, 5000} {
		checks(t, many(n), api.ErrLong)
	}
	for _, wrong := range entries("0e 0c1.1 2z 2x 2e0.1 2s1.0 2c0.1 2c1.0 0z") {
		for _, n := range []int{1, 2, 150, 299, 300} {
			checks(t, with(many(n), n, wrong), api.ErrArg)
			checks(t, with(many(300), n, wrong), api.ErrArg)
			checks(t, with(many(301), n, wrong), api.ErrLong)
		}
		checks(t, with(many(301), 301, wrong), api.ErrLong)
	}
	checks(t, make([]api.Entry, 300), api.ErrArg)
	checks(t, make([]api.Entry, 301), api.ErrLong)
}

// P13.1: terms.
func TestCheckTerms(t *testing.T) {
	for _, x := range []struct {
		terms []uint64
		want  api.Errno
	}{
		{[]uint64{0}, api.ErrArg},
		{[]uint64{1}, api.OK},
		{[]uint64{2}, api.OK},
		{[]uint64{most}, api.OK},
		{[]uint64{0, 0}, api.ErrArg},
		{[]uint64{0, 1}, api.ErrArg},
		{[]uint64{1, 0}, api.ErrArg},
		{[]uint64{2, 1}, api.ErrArg},
		{[]uint64{2, 2}, api.OK},
		{[]uint64{2, 3}, api.OK},
		{[]uint64{2, 9}, api.OK},
		{[]uint64{1, 1, 0}, api.ErrArg},
		{[]uint64{1, 3, 2}, api.ErrArg},
		{[]uint64{3, 1, 3}, api.ErrArg},
		{[]uint64{1, 5, 4, 6}, api.ErrArg},
		// Below the one ahead, though not below the one ahead of that.
		{[]uint64{1, 3, 2, 4}, api.ErrArg},
		{[]uint64{1, 2, 2, 3, 5, 5, 8}, api.OK},
		{[]uint64{1, most, most}, api.OK},
		{[]uint64{most - 1, most}, api.OK},
		{[]uint64{most, most - 1}, api.ErrArg},
		{[]uint64{most, 0}, api.ErrArg},
		{[]uint64{most, 1}, api.ErrArg},
		{[]uint64{1<<32 - 1, 1 << 32}, api.OK},
		{[]uint64{1 << 32, 1<<32 - 1}, api.ErrArg},
		{[]uint64{1 << 32, 1}, api.ErrArg},
		{[]uint64{1<<63 - 1, 1 << 63}, api.OK},
		{[]uint64{1 << 63, 1<<63 - 1}, api.ErrArg},
	} {
		for _, e := range entries("1e 1s 1c1.1") {
			var l []api.Entry
			for _, term := range x.terms {
				e.Term = term
				l = append(l, e)
			}
			checks(t, l, x.want)
		}
	}
}

// P13.1: kinds, at each place.
func TestCheckKinds(t *testing.T) {
	for _, kind := range []int{math.MinInt, math.MinInt32, -1 << 32, -3, -2, -1, 0, 1, 2, 3, 4, 5, 77, 257, 1 << 31, 1<<32 + 1, 1<<32 + 3, math.MaxInt} {
		for number := 1; number <= 4; number++ {
			for _, g := range guids("0.0 1.1") {
				want := api.ErrArg
				if g == guid(0, 0) && (kind == 1 || kind == 2) || g == guid(1, 1) && kind == 3 {
					want = api.OK
				}
				e := api.Entry{Term: 1, Kind: kind, Guid: g}
				checks(t, []api.Entry{e}, want)
				checks(t, with(many(4), number, e), want)
			}
		}
	}
}

// P13.1: guids of each kind, at each place.
func TestCheckGuids(t *testing.T) {
	for _, g := range []api.Guid{
		guid(0, 0), guid(0, 1), guid(1, 0), guid(1, 1), guid(1, 2), guid(2, 1), guid(7, 1), guid(0, 9), guid(9, 0),
		guid(0, most), guid(most, 0), guid(1, most), guid(most, 1), guid(most, most),
		guid(0, 1<<32), guid(1<<32, 0), guid(1<<32, 1<<32), guid(1<<63, 1<<63),
	} {
		for _, term := range []uint64{1, 2, most} {
			for _, kind := range []int{api.EntEpoch, api.EntLease, api.EntCommit} {
				want := api.ErrArg
				if kind == api.EntCommit && g.Epoch > 0 && g.Count > 0 || kind != api.EntCommit && g == guid(0, 0) {
					want = api.OK
				}
				e := api.Entry{Term: term, Kind: kind, Guid: g}
				checks(t, []api.Entry{e}, want)
				checks(t, append(many(299), e), want)
				e.Term = 1
				for number := 1; number <= 4; number++ {
					checks(t, with(many(4), number, e), want)
				}
			}
		}
	}
	// Guids need not rise, nor be there once, nor be of their entry's term: that is Fold's to ask.
	checks(t, entries("1e 1c1.5 1c1.4 1c1.4 1c9.9 2c1.1"), api.OK)
	// Nothing asks in what order the kinds come.
	checks(t, entries("1c1.1 1s 1e 1e 2s 2s 3c3.1"), api.OK)
}

// P13.1: the highest numbers of all.
func TestCheckHighest(t *testing.T) {
	e := api.Entry{Term: most, Kind: api.EntCommit, Guid: guid(most, most)}
	checks(t, []api.Entry{e, e, e}, api.OK)
	checks(t, slices.Repeat([]api.Entry{e}, 300), api.OK)
	checks(t, slices.Repeat([]api.Entry{e}, 301), api.ErrLong)
}

// P13.1: lists that differ in their lengths, and in one field of one entry.
func TestSame(t *testing.T) {
	if !Same(nil, nil) || !Same(nil, []api.Entry{}) || !Same([]api.Entry{}, nil) {
		t.Error("lists without entries are not the same")
	}
	lists := [][]api.Entry{nil, entries("1e"), entries("1e 1s 1c1.1 2e 2s 2c2.1"), entries("0z 9x7.7 0e"), {strange}, many(300), many(301)}
	for i, a := range lists {
		for j, b := range lists {
			if !slices.Equal(a, b) || i == j {
				same(t, a, b, i == j)
			}
		}
		for n := range min(len(a), 10) {
			same(t, a, a[:n], false)
			same(t, a, a[n+1:], false)
			same(t, a[:n], a[:n], true)
		}
		same(t, a, append(slices.Clone(a), strange), false)
		same(t, a, append(slices.Clone(a), api.Entry{}), false)
		for at, e := range a[:min(len(a), 10)] {
			for _, by := range []uint64{1, 1 << 31, 1 << 32, 1 << 63, most} {
				for field := range 4 {
					same(t, a, with(a, at+1, otherIn(e, field, by)), false)
				}
			}
		}
	}
	same(t, entries("1e 1s"), entries("1s 1e"), false)
	// The numbers of a guid are not those of another one that are the other way round.
	same(t, entries("1c1.2"), entries("1c2.1"), false)
	same(t, entries("1c2.1"), entries("2c1.1"), false)
}

// otherIn answers the entry with another number in that field.
func otherIn(e api.Entry, field int, by uint64) api.Entry {
	switch field {
	case 0:
		e.Term ^= by
	case 1:
		e.Kind ^= int(by)
	case 2:
		e.Guid.Epoch ^= by
	case 3:
		e.Guid.Count ^= by
	}
	return e
}

// P13.2: each number of an entry, with each term.
func TestFits(t *testing.T) {
	lists := [][]api.Entry{nil, {}, entries("1e"), entries("1e 1s 1c1.1 2e 4e"), entries("3e 2e 1e"), entries("0e 0z 5x"), entries("18446744073709551615e")}
	for _, l := range lists {
		for _, prev := range numbers(len(l)) {
			for _, term := range []uint64{0, 1, 2, 3, 4, 5, 1 << 32, 1 << 63, most - 1, most} {
				want := prev == 0 && term == 0
				for i, e := range l {
					want = want || prev == i+1 && term == e.Term
				}
				fits(t, l, prev, term, want)
			}
		}
	}
	l := entries("1e 2e 2s")
	fits(t, l, 0, 0, true)
	fits(t, l, 0, 1, false)
	fits(t, l, 0, 2, false)
	fits(t, l, 1, 1, true)
	fits(t, l, 1, 2, false)
	fits(t, l, 1, 0, false)
	fits(t, l, 3, 2, true)
	fits(t, l, 3, 3, false)
	fits(t, l, 4, 2, false)
	fits(t, l, 4, 0, false)
	fits(t, l, -1, 0, false)
	fits(t, l, math.MinInt, 0, false)
	fits(t, l, math.MaxInt, 2, false)
}

// P13.2: terms and numbers, above, the same and below.
func TestNewer(t *testing.T) {
	for _, x := range []struct {
		l     []api.Entry
		last  uint64
		count int
	}{
		{nil, 0, 0},
		{[]api.Entry{}, 0, 0},
		{entries("1e"), 1, 1},
		{entries("1e 1s 3e"), 3, 3},
		{entries("5e 1s 3e 4s"), 4, 4},
		{entries("9e 0e"), 0, 2},
		{entries("1z 18446744073709551615x"), most, 2},
		{many(300), 1, 300},
	} {
		for _, n := range append(numbers(min(x.count, 5)), x.count-1, x.count, x.count+1) {
			newer(t, x.last, n, x.l, n >= x.count)
			if x.last > 0 {
				newer(t, x.last-1, n, x.l, false)
				newer(t, 0, n, x.l, false)
			}
			if x.last < most {
				newer(t, x.last+1, n, x.l, true)
				newer(t, most, n, x.l, true)
			}
		}
	}
	l := entries("1e 3e")
	newer(t, 4, 0, l, true)
	newer(t, 4, -1, l, true)
	newer(t, 3, 1, l, false)
	newer(t, 3, 2, l, true)
	newer(t, 3, 3, l, true)
	newer(t, 2, 3, l, false)
	newer(t, 2, math.MaxInt, l, false)
	newer(t, 3, math.MinInt, l, false)
	newer(t, 0, -1, nil, false)
	newer(t, 1, -1, nil, true)
}

// P13.3: joined where, and what.
func TestJoin(t *testing.T) {
	for _, x := range []struct {
		l    string
		prev int
		more string
		want string
	}{
		// Where there is no entry ahead, nothing is joined.
		{"1e 1s", -1, "5e", "1e 1s"},
		{"1e 1s", math.MinInt, "5e", "1e 1s"},
		{"1e 1s", 3, "5e", "1e 1s"},
		{"1e 1s", math.MaxInt, "5e 5s", "1e 1s"},
		{"", 1, "5e", ""},
		{"", -1, "5e", ""},
		// No more entries.
		{"", 0, "", ""},
		{"1e 1s 2e", -1, "", "1e 1s 2e"},
		{"1e 1s 2e", 0, "", "1e 1s 2e"},
		{"1e 1s 2e", 1, "", "1e 1s 2e"},
		{"1e 1s 2e", 3, "", "1e 1s 2e"},
		{"1e 1s 2e", 4, "", "1e 1s 2e"},
		// All that come are new.
		{"", 0, "1e", "1e"},
		{"", 0, "1e 1s 2e", "1e 1s 2e"},
		{"1e 1s", 2, "1c1.1", "1e 1s 1c1.1"},
		{"1e 1s", 2, "2e 2s 2c2.1", "1e 1s 2e 2s 2c2.1"},
		// All that come are there.
		{"1e 1s 2e", 0, "1e", "1e 1s 2e"},
		{"1e 1s 2e", 0, "1e 1s", "1e 1s 2e"},
		{"1e 1s 2e", 0, "1e 1s 2e", "1e 1s 2e"},
		{"1e 1s 2e", 1, "1s", "1e 1s 2e"},
		{"1e 1s 2e", 1, "1s 2e", "1e 1s 2e"},
		{"1e 1s 2e", 2, "2e", "1e 1s 2e"},
		// Some are there, the others are new.
		{"1e 1s", 0, "1e 1s 2e", "1e 1s 2e"},
		{"1e 1s", 1, "1s 2e 2s", "1e 1s 2e 2s"},
		// The first one that differs, and all behind it, take the place of what was there.
		{"1e 1s 1c1.1", 0, "2e", "2e"},
		{"1e 1s 1c1.1", 1, "2e", "1e 2e"},
		{"1e 1s 1c1.1", 2, "2e", "1e 1s 2e"},
		{"1e 1s 1c1.1", 0, "1e 2e", "1e 2e"},
		{"1e 1s 1c1.1", 0, "1e 1s 2e", "1e 1s 2e"},
		{"1e 1s 1c1.1", 0, "1e 2e 2s 2c2.1 2c2.2", "1e 2e 2s 2c2.1 2c2.2"},
		{"1e 1s 3e 3s 3c3.1", 1, "1s 2e", "1e 1s 2e"},
		{"1e 1s 3e 3s 3c3.1", 2, "2e 3s", "1e 1s 2e 3s"},
		// Behind the first one that differs the terms are not asked any more.
		{"1e 2e 3e 4e", 1, "9e 3s 4s", "1e 9e 3s 4s"},
		{"1e 2e 3e 4e", 1, "9e 3s", "1e 9e 3s"},
		// Same terms: what is there stays as it is.
		{"1e 1s 1c1.1", 1, "1e", "1e 1s 1c1.1"},
		{"1e 1s 1c1.1", 2, "1c1.2", "1e 1s 1c1.1"},
		{"1e 1s 1c1.1", 0, "1s 1c1.1 1e", "1e 1s 1c1.1"},
		{"1e 1s 1c1.1", 0, "1s 1c1.1 1e 1x", "1e 1s 1c1.1 1x"},
		{"1e 1s 1c1.1", 0, "1s 1c1.1 2e 2s", "1e 1s 2e 2s"},
		// Lists that may not be as logs are joined, too.
		{"5e 1e", 1, "0z", "5e 0z"},
		{"5e 1e", 2, "0z 4x", "5e 1e 0z 4x"},
		{"0e 0z", 0, "0x 0x 0x", "0e 0z 0x"},
	} {
		joins(t, entries(x.l), x.prev, entries(x.more), entries(x.want))
	}
	for _, none := range [][]api.Entry{nil, {}} {
		if got := Join(none, 0, none); len(got) > 0 {
			t.Errorf("%v", got)
		}
		if got := Join(none, 0, entries("1e")); !slices.Equal(got, entries("1e")) {
			t.Errorf("%v", got)
		}
		if got := Join(entries("1e"), 1, none); !slices.Equal(got, entries("1e")) {
			t.Errorf("%v", got)
		}
	}
}

// P13.3: each place to begin at, each number of more entries, and each place of the first one of another term.
func TestJoinFirstOther(t *testing.T) {
	l := entries("3e 3s 3c3.1 5e 5s 5c5.1")
	for _, prev := range numbers(len(l)) {
		for n := range 9 {
			// As many as there are with the same terms, others in all else; then what is new.
			var more []api.Entry
			for i := range n {
				more = append(more, api.Entry{Term: 6, Kind: 1 + i%3, Guid: guid(8, uint64(i))})
				if prev >= 0 && prev < len(l)-i {
					more[i].Term = l[prev+i].Term
				}
			}
			if prev < 0 || prev > len(l) {
				joins(t, l, prev, more, l)
				continue
			}
			there := min(n, len(l)-prev)
			want := l
			if n > there {
				want = append(slices.Clone(l), more[there:]...)
			}
			joins(t, l, prev, more, want)
			for first := range there {
				for _, term := range []uint64{more[first].Term + 1, more[first].Term - 1, 0, most} {
					other := with(more, first+1, api.Entry{Term: term, Kind: 1})
					joins(t, l, prev, other, append(slices.Clone(l[:prev+first]), other[first:]...))
				}
			}
		}
	}
}

// P13.3: long lists, above a log's limit, too.
func TestJoinLong(t *testing.T) {
	l := many(300)
	joins(t, l, 300, entries("1e 2e"), append(many(300), entries("1e 2e")...))
	joins(t, l, 299, entries("2e"), append(many(299), entries("2e")...))
	joins(t, l, 0, many(300), l)
	joins(t, l, 0, many(400), append(many(300), many(400)[300:]...))
	joins(t, l, 0, append(many(299), entries("2e 2s 2s")...), append(many(299), entries("2e 2s 2s")...))
	joins(t, nil, 0, many(301), many(301))
}

// R5: what Join answers is new, also where it is all of l, or all of more; what is put behind it goes nowhere else.
func TestJoinIsNew(t *testing.T) {
	l, more := many(5), entries("2e 2s")
	for _, prev := range []int{-1, 0, 2, 4, 5, 6} {
		for n := range 3 {
			a, b := watch(l), watch(more[:n])
			got := append(Join(a.list, prev, b.list), strange)
			got[0].Term = 99
			a.stays(t, "Join")
			b.stays(t, "Join")
		}
	}
	// A beginning of a list: what is behind it stays as well.
	joined := Join(l[:2], 2, more)
	if !slices.Equal(l, many(5)) || !slices.Equal(joined, entries("1e 1s 2e 2s")) {
		t.Errorf("%v, %v", l, joined)
	}
	// Both lists are one.
	if got := Join(l, 5, l); !slices.Equal(got, slices.Concat(many(5), many(5))) || !slices.Equal(l, many(5)) {
		t.Errorf("%v, %v", got, l)
	}
}

// P13.4: entry by entry, for each number of committed ones.
func TestFold(t *testing.T) {
	for _, x := range []struct {
		what, entries string
		lines         []api.Line // what is known behind none, one, two and so on
	}{
		{"no entries", "", []api.Line{{}}},
		{"two epochs", "1e 1s 1c1.1 1c1.2 3e 3s 3c3.1", []api.Line{
			{}, line(1, 0, false, ""), line(1, 0, true, ""), line(1, 0, true, "1.1"), line(1, 0, true, "1.1 1.2"),
			line(3, 2, false, "1.1 1.2"), line(3, 2, true, "1.1 1.2"), line(3, 2, true, "1.1 1.2 3.1"),
		}},
		{"an epoch without a lease, and one without a guid", "2e 2c2.1 4e 4s 7e", []api.Line{
			{}, line(2, 0, false, ""), line(2, 0, false, "2.1"), line(4, 1, false, "2.1"), line(4, 1, true, "2.1"), line(7, 1, false, "2.1"),
		}},
		{"the same epoch again", "2e 2s 2c2.1 2e 2c2.2 2s", []api.Line{
			{}, line(2, 0, false, ""), line(2, 0, true, ""), line(2, 0, true, "2.1"),
			line(2, 1, false, "2.1"), line(2, 1, false, "2.1 2.2"), line(2, 1, true, "2.1 2.2"),
		}},
		{"a lease ahead of any epoch", "1s 1e", []api.Line{{}, {}, line(1, 0, false, "")}},
		{"a lease of another term", "2e 3s 1s 2s 3s", []api.Line{
			{}, line(2, 0, false, ""), line(2, 0, false, ""), line(2, 0, false, ""), line(2, 0, true, ""), line(2, 0, true, ""),
		}},
		{"a lease twice", "1e 1s 1s", []api.Line{{}, line(1, 0, false, ""), line(1, 0, true, ""), line(1, 0, true, "")}},
		{"a guid ahead of any epoch", "1c1.1 1e 1c1.1", []api.Line{{}, {}, line(1, 0, false, ""), line(1, 0, false, "1.1")}},
		{"an entry of another term than the epoch", "2e 3c3.1 1c1.1 2c2.1", []api.Line{
			{}, line(2, 0, false, ""), line(2, 0, false, ""), line(2, 0, false, ""), line(2, 0, false, "2.1"),
		}},
		{"a guid of another epoch", "2e 2c1.1 2c3.1 2c2.1", []api.Line{
			{}, line(2, 0, false, ""), line(2, 0, false, ""), line(2, 0, false, ""), line(2, 0, false, "2.1"),
		}},
		{"a guid of the epoch, in an entry of another term", "2e 3c2.1 1c2.1 2c2.2", []api.Line{
			{}, line(2, 0, false, ""), line(2, 0, false, ""), line(2, 0, false, ""), line(2, 0, false, "2.2"),
		}},
		{"guids below, the same, and above", "1e 1c1.5 1c1.4 1c1.5 1c1.6 1c1.1 1c1.9", []api.Line{
			{}, line(1, 0, false, ""), line(1, 0, false, "1.5"), line(1, 0, false, "1.5"), line(1, 0, false, "1.5"),
			line(1, 0, false, "1.5 1.6"), line(1, 0, false, "1.5 1.6"), line(1, 0, false, "1.5 1.6 1.9"),
		}},
		{"a guid of a later epoch with a lower count", "1e 1c1.5 2e 2c2.1 2c2.1", []api.Line{
			{}, line(1, 0, false, ""), line(1, 0, false, "1.5"), line(2, 1, false, "1.5"), line(2, 1, false, "1.5 2.1"), line(2, 1, false, "1.5 2.1"),
		}},
		{"a guid of an older epoch, too late", "1e 1s 1c1.1 2e 1c1.2 2c1.2 2s", []api.Line{
			{}, line(1, 0, false, ""), line(1, 0, true, ""), line(1, 0, true, "1.1"),
			line(2, 1, false, "1.1"), line(2, 1, false, "1.1"), line(2, 1, false, "1.1"), line(2, 1, true, "1.1"),
		}},
		{"the highest numbers", "18446744073709551615e 18446744073709551615c18446744073709551615.18446744073709551615 18446744073709551615s", []api.Line{
			{}, line(most, 0, false, ""), line(most, 0, false, "18446744073709551615.18446744073709551615"), line(most, 0, true, "18446744073709551615.18446744073709551615"),
		}},
		// What follows may not be as a log.
		{"terms that fall", "3e 3s 3c3.1 2e 2c2.1 2s 3s 3e 3c3.2", []api.Line{
			{}, line(3, 0, false, ""), line(3, 0, true, ""), line(3, 0, true, "3.1"), line(2, 1, false, "3.1"), line(2, 1, false, "3.1"),
			line(2, 1, true, "3.1"), line(2, 1, true, "3.1"), line(3, 1, false, "3.1"), line(3, 1, false, "3.1 3.2"),
		}},
		{"kinds that are none", "1e 1z 1s 1x1.1 2z 1c1.1 1z1.2 9x", []api.Line{
			{}, line(1, 0, false, ""), line(1, 0, false, ""), line(1, 0, true, ""), line(1, 0, true, ""), line(1, 0, true, ""),
			line(1, 0, true, "1.1"), line(1, 0, true, "1.1"), line(1, 0, true, "1.1"),
		}},
		{"guids with an epoch and with a lease", "1e1.1 1s1.2 1c1.1 2e1.9", []api.Line{
			{}, line(1, 0, false, ""), line(1, 0, true, ""), line(1, 0, true, "1.1"), line(2, 1, false, "1.1"),
		}},
		{"the term 0", "0c0.0 0c0.0 0c0.1 0s 0c1.1 0e 0c0.2 1c1.0 1e 1c1.0 1c1.0", []api.Line{
			{}, line(0, 0, false, "0.0"), line(0, 0, false, "0.0"), line(0, 0, false, "0.0 0.1"), line(0, 0, true, "0.0 0.1"), line(0, 0, true, "0.0 0.1"),
			line(0, 2, false, "0.0 0.1"), line(0, 2, false, "0.0 0.1 0.2"), line(0, 2, false, "0.0 0.1 0.2"),
			line(1, 3, false, "0.0 0.1 0.2"), line(1, 3, false, "0.0 0.1 0.2 1.0"), line(1, 3, false, "0.0 0.1 0.2 1.0"),
		}},
	} {
		l := entries(x.entries)
		if len(x.lines) != len(l)+1 {
			t.Fatalf("%s: %d lines of %d entries", x.what, len(x.lines), len(l))
		}
		for _, n := range numbers(len(l)) {
			folds(t, l, n, x.lines[max(min(n, len(l)), 0)])
		}
	}
	folds(t, []api.Entry{}, 0, api.Line{})
	folds(t, []api.Entry{}, 1, api.Line{})
}

// P13.4: kinds that are none say nothing.
func TestFoldOtherKinds(t *testing.T) {
	for _, kind := range []int{math.MinInt, -1 << 32, -3, -2, -1, 0, 4, 5, 257, 1<<32 + 1, 1<<32 + 2, 1<<32 + 3, math.MaxInt} {
		l := entries("1e 1c1.1")
		for _, term := range []uint64{0, 1, 2} {
			l = append(l, api.Entry{Term: term, Kind: kind}, api.Entry{Term: term, Kind: kind, Guid: guid(1, 9)})
		}
		folds(t, l, len(l), line(1, 0, false, "1.1"))
	}
}

// P13.4: a lineage may be longer than a chain, and a list longer than a log.
func TestFoldLong(t *testing.T) {
	l := many(2000)
	for _, n := range []int{0, 1, 2, 3, 22, 23, 300, 301, 1999, 2000, 2001} {
		want := api.Line{Leased: n > 1}
		if n > 0 {
			want.Epoch = 1
		}
		for i := 2; i < min(n, 2000); i++ {
			want.List = append(want.List, guid(1, uint64(i)))
		}
		folds(t, l, n, want)
	}
}

// follows asks P13.5: what was joined is there, and joined once more, or a beginning of it, it changes nothing.
func follows(t *testing.T, l []api.Entry, prev int, more []api.Entry) {
	t.Helper()
	joined := Join(l, prev, more)
	for n := range len(more) + 1 {
		if got := Join(joined, prev, more[:n]); !Same(got, joined) {
			t.Fatalf("Join(%v, %d, %v): %v; %d of it once more: %v", l, prev, more, joined, n, got)
		}
	}
	if prev < 0 || prev > len(l) {
		return
	}
	for i, e := range more {
		if !Fits(joined, prev+i+1, e.Term) {
			t.Fatalf("Join(%v, %d, %v): %v: it has no entry %d of the term %d", l, prev, more, joined, prev+i+1, e.Term)
		}
	}
	if !Same(joined[:prev], l[:prev]) {
		t.Fatalf("Join(%v, %d, %v): %v: what is ahead is changed", l, prev, more, joined)
	}
	// So what the entries ahead say is said still (W1).
	for n := range prev + 1 {
		if !alike(Fold(joined, n), Fold(l, n)) {
			t.Fatalf("Join(%v, %d, %v): %v: the first %d say other things", l, prev, more, joined, n)
		}
	}
}

// grows asks P13.6 (W1) of a list.
func grows(t *testing.T, l []api.Entry) {
	t.Helper()
	var was api.Line
	may := Check(l) == api.OK
	least := uint64(0) // the epoch that was known when the last EntEpoch was there
	for n := range len(l) + 1 {
		is := Fold(l, n)
		if len(is.List) < len(was.List) || !slices.Equal(is.List[:len(was.List)], was.List) {
			t.Fatalf("%v: behind %d entries %v, behind one more %v", l, n-1, was.List, is.List)
		}
		if may {
			if is.Epoch < was.Epoch || is.Before < was.Before || is.Before > len(is.List) {
				t.Fatalf("%v: behind %d entries %+v, behind one more %+v", l, n-1, was, is)
			}
			for i, g := range is.List {
				if g.Epoch > is.Epoch || i > 0 && !isAbove(g, is.List[i-1]) {
					t.Fatalf("%v: behind %d entries %v of the epoch %d", l, n, is.List, is.Epoch)
				}
				if i >= is.Before && g.Epoch < is.Epoch || i >= len(was.List) && g.Epoch < least {
					t.Fatalf("%v: behind %d entries %v came too late", l, n, g)
				}
			}
		}
		if n > 0 && l[n-1].Kind == api.EntEpoch {
			least = is.Epoch
		}
		was = is
	}
}

// P13.5: drawn lists, and drawn logs.
func TestJoinedOnceMore(t *testing.T) {
	for seed := range uint64(20000) {
		draw := draws(seed)
		l, other := drawnPair(draw)
		from := draw(len(other) + 1)
		follows(t, l, from, other[from:])
		follows(t, l, draw(len(l)+3)-1, other[from:from+draw(len(other)-from+1)])
	}
}

// fixed answers a log that may be, in which an entry's number and term say all of it, as where each term has one leader.
func fixed(draw func(n int) int) []api.Entry {
	var l []api.Entry
	term := 1 + draw(2)
	for range draw(12) {
		term += draw(3) / 2
		e := api.Entry{Term: uint64(term), Kind: 1 + (len(l)+term)%3}
		if e.Kind == api.EntCommit {
			e.Guid = guid(uint64(term), uint64(1+len(l)))
		}
		l = append(l, e)
	}
	return l
}

// P13.5: where entries of the same number and term are the same, what was joined is there, entry by entry.
func TestJoinedIsThere(t *testing.T) {
	cut := 0
	for seed := range uint64(20000) {
		draw := draws(seed)
		l, other := fixed(draw), fixed(draw)
		prev := draw(min(len(l), len(other)) + 1)
		more := other[prev:]
		joined := Join(l, prev, more)
		if !Same(joined[prev:prev+len(more)], more) {
			t.Fatalf("Join(%v, %d, %v): %v", l, prev, more, joined)
		}
		follows(t, l, prev, more)
		if len(more) > 0 && len(joined) < len(l) {
			cut++
		}
	}
	if cut < 1000 {
		t.Errorf("the draws say little: %d", cut)
	}
}

// P13.6: drawn lists, and drawn logs.
func TestLineageGrows(t *testing.T) {
	may, late, epochs := 0, 0, 0
	for seed := range uint64(20000) {
		draw := draws(seed)
		grows(t, drawnList(draw))
		l := drawnLog(draw, uint64(1+draw(3)))
		grows(t, l)
		if Check(l) == api.OK {
			may++
		}
		// How often a guid of an older epoch comes behind an EntEpoch, and how many epochs have guids.
		for i, e := range l {
			if e.Kind == api.EntCommit && e.Guid.Epoch < Fold(l, i).Epoch {
				late++
			}
		}
		if x := Fold(l, len(l)); x.Before > 0 && len(x.List) > x.Before {
			epochs++
		}
	}
	if may < 20000 || late < 1000 || epochs < 300 {
		t.Errorf("the draws say little: %d, %d, %d", may, late, epochs)
	}
}

// R6: the same calls answer the same, whatever was asked between them.
func TestAgain(t *testing.T) {
	l, more := entries("1e 1s 1c1.1 3e"), entries("2e 2s 2c2.1")
	for seed := range uint64(500) {
		draw := draws(seed)
		other := drawnLog(draw, 1)
		Check(other)
		Join(other, draw(5), l)
		Fold(other, len(other))
		Newer(3, draw(5), other)
		checks(t, l, api.OK)
		joins(t, l, 3, more, entries("1e 1s 1c1.1 2e 2s 2c2.1"))
		folds(t, l, 4, line(3, 1, false, "1.1"))
		fits(t, l, 4, 3, true)
		newer(t, 3, 3, l, false)
		same(t, l, more, false)
	}
}

// What README.md says of the package.
func Example() {
	one := api.Guid{Epoch: 1, Count: 1}
	l := []api.Entry{
		{Term: 1, Kind: api.EntEpoch},
		{Term: 1, Kind: api.EntLease},
		{Term: 1, Kind: api.EntCommit, Guid: one},
	}
	fmt.Println(Check(l))
	fmt.Println(Fits(l, 3, 1), Newer(1, 2, l))
	three := []api.Entry{{Term: 3, Kind: api.EntEpoch}}
	joined := Join(l, 3, three)
	fmt.Println(len(joined))
	joined = Join(joined, 1, l[1:2])
	fmt.Println(len(joined))
	fmt.Printf("%+v\n", Fold(joined, 3))
	fmt.Printf("%+v\n", Fold(joined, 4))
	joined = Join(joined, 1, three)
	fmt.Println(len(joined), Same(joined, l))
	// Output:
	// stemma: 0
	// true false
	// 4
	// 4
	// {Epoch:1 Before:0 Leased:true List:[{Epoch:1 Count:1}]}
	// {Epoch:3 Before:1 Leased:false List:[{Epoch:1 Count:1}]}
	// 2 false
}
