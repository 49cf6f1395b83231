package line

import (
	"slices"
	"testing"

	"stemma/api"
)

// What follows reads the chapter word by word, guid by guid, without a thought of how the package does it.

// isAbove tells whether g is above other.
func isAbove(g, other api.Guid) bool {
	return g.Epoch > other.Epoch || g.Epoch == other.Epoch && g.Count > other.Count
}

// plainCheck answers what Check does.
func plainCheck(l api.Line) api.Errno {
	if len(l.List) > 20 {
		return api.ErrLong
	}
	for i, g := range l.List {
		if g.Epoch == 0 && g.Count == 0 {
			return api.ErrArg
		}
		if i > 0 && !isAbove(g, l.List[i-1]) {
			return api.ErrArg
		}
	}
	if l.Before < 0 || l.Before > len(l.List) {
		return api.ErrArg
	}
	for _, g := range l.List {
		if g.Epoch > l.Epoch {
			return api.ErrArg
		}
	}
	return api.OK
}

// plainSame answers what Same does.
func plainSame(a, b api.Line) bool {
	if len(a.List) != len(b.List) {
		return false
	}
	for i := range a.List {
		if a.List[i].Epoch != b.List[i].Epoch || a.List[i].Count != b.List[i].Count {
			return false
		}
	}
	return a.Epoch == b.Epoch && a.Before == b.Before && a.Leased == b.Leased
}

// plainFurther tells whether a is further than b.
func plainFurther(a, b api.Line) bool {
	if a.Epoch > b.Epoch {
		return true
	}
	if a.Epoch == b.Epoch && len(a.List) > len(b.List) {
		return true
	}
	return a.Epoch == b.Epoch && len(a.List) == len(b.List) && a.Leased && !b.Leased
}

// plainMerge answers what Merge does.
func plainMerge(a, b api.Line) api.Line {
	if plainFurther(b, a) {
		return b
	}
	return a
}

// plainCommon answers what Common does: of all numbers that are not too many, the greatest one.
func plainCommon(list []api.Guid, l api.Line) int {
	most := 0
	for n := 0; n <= len(list) && n <= len(l.List); n++ {
		if plainSame(api.Line{List: list[:n]}, api.Line{List: l.List[:n]}) {
			most = n
		}
	}
	return most
}

// plainStays answers what Stays does.
func plainStays(list []api.Guid, l api.Line) int {
	common := plainCommon(list, l)
	if common == len(list) {
		return len(list)
	}
	if common != len(l.List) {
		return common
	}
	for i, g := range list {
		if i >= common && g.Epoch < l.Epoch {
			return i
		}
	}
	return len(list)
}

// holdsAll holds each call, of these arguments, against the chapter.
func holdsAll(t *testing.T, list []api.Guid, a, b api.Line) {
	t.Helper()
	checks(t, a, plainCheck(a))
	same(t, a, b, plainSame(a, b))
	merges(t, a, b, plainMerge(a, b))
	common(t, list, a, plainCommon(list, a))
	stays(t, list, a, plainStays(list, a))
}

// draws answers a draw from 0 on, below what it is asked for, from a short rule, so that each run does the same.
func draws(seed uint64) func(n int) int {
	return func(n int) int {
		seed = seed*6364136223846793005 + 1442695040888963407
		return int(seed >> 33 % uint64(n))
	}
}

// drawnGuids answers guids behind the last one of those that are handed in; mostly each one above the one ahead.
func drawnGuids(draw func(n int) int, l []api.Guid) []api.Guid {
	l = slices.Clone(l)
	g := guid(1, 0)
	if len(l) > 0 {
		g = l[len(l)-1]
	}
	for range draw(6) {
		switch draw(12) {
		case 0:
			g = guid(uint64(draw(4)), uint64(draw(3)))
		case 1, 2, 3, 4:
			g = guid(g.Epoch+uint64(1+draw(2)), uint64(1+draw(2)))
		default:
			g.Count += uint64(1 + draw(2))
		}
		l = append(l, g)
	}
	return l
}

// drawnLine answers a line with a list that begins as l does.
func drawnLine(draw func(n int) int, l []api.Guid) api.Line {
	x := api.Line{Leased: draw(2) == 0, List: drawnGuids(draw, l)}
	x.Before = draw(len(x.List)+3) - draw(12)/10
	for _, g := range x.List {
		x.Epoch = max(x.Epoch, g.Epoch)
	}
	x.Epoch += uint64(draw(3) / 2)
	if draw(5) == 0 {
		x.Epoch = uint64(draw(4))
	}
	return x
}

// drawnPair answers a list and a line that begin alike.
func drawnPair(draw func(n int) int) ([]api.Guid, api.Line) {
	begin := drawnGuids(draw, nil)
	x := drawnLine(draw, begin)
	switch draw(4) {
	case 0: // the list goes on where the line ends
		return drawnGuids(draw, x.List), x
	case 1: // or the line where the list ends
		return x.List[:draw(len(x.List)+1)], x
	}
	return drawnGuids(draw, begin), x
}

// drawnLines answers two lines that may be as far.
func drawnLines(draw func(n int) int) (a, b api.Line) {
	a = drawnLine(draw, nil)
	if draw(2) == 0 {
		return a, drawnLine(draw, nil)
	}
	b = a
	b.List = slices.Clone(a.List)
	switch draw(6) {
	case 0:
		b.Epoch++
	case 1:
		b.Before++
	case 2:
		b.Leased = !b.Leased
	case 3:
		b.List = drawnGuids(draw, b.List)
	case 4:
		if n := len(b.List); n > 0 {
			b.List[draw(n)].Count++
		}
	}
	return a, b
}

// P14.1 to P14.3: many lists and lines, held against a plain reading of the chapter.
func TestManyLines(t *testing.T) {
	var may, not, on, common int
	for seed := range uint64(40000) {
		draw := draws(seed)
		list, l := drawnPair(draw)
		a, b := drawnLines(draw)
		holdsAll(t, list, l, a)
		holdsAll(t, a.List, b, a)
		if plainCheck(l) == api.OK && len(l.List) > 1 {
			may++
		}
		if plainCheck(l) != api.OK {
			not++
		}
		if plainStays(list, l) > plainCommon(list, l) {
			on++
		}
		if plainCommon(list, l) > 0 {
			common++
		}
	}
	if may < 10000 || not < 5000 || on < 1000 || common < 10000 {
		t.Errorf("the draws say little: %d, %d, %d, %d", may, not, on, common)
	}
}

// P14.1 to P14.3: all lists of up to three of some guids, and all lines that have them, held against a plain reading of the chapter.
func TestAllShortLists(t *testing.T) {
	some := guids("0.0 0.1 1.1 1.2 2.1")
	lists := [][]api.Guid{nil}
	ends := 0
	for range 3 {
		begins := lists[ends:]
		ends = len(lists)
		for _, l := range begins {
			for _, g := range some {
				lists = append(lists, append(l[:len(l):len(l)], g))
			}
		}
	}
	for i, list := range lists {
		for j, known := range lists {
			for epoch := range uint64(4) {
				n := i + j + int(epoch)
				a := api.Line{Epoch: epoch, Before: n%6 - 1, Leased: n%2 == 0, List: known}
				b := api.Line{Epoch: uint64(n % 4), Before: n % 3, Leased: n%3 == 0, List: list}
				if plainCommon(list, a) != Common(list, a) || plainStays(list, a) != Stays(list, a) {
					t.Fatalf("%v, %+v: %d common, %d stay", list, a, Common(list, a), Stays(list, a))
				}
				if plainCheck(a) != Check(a) || plainSame(a, b) != Same(a, b) || !plainSame(plainMerge(a, b), Merge(a, b)) {
					t.Fatalf("%+v, %+v: %d, %v, %+v", a, b, Check(a), Same(a, b), Merge(a, b))
				}
			}
		}
	}
}

// FuzzLines asks lists and lines of any numbers what the chapter says of them.
func FuzzLines(f *testing.F) {
	f.Add([]byte("\x01\x01\x01\x02\x02\x01\x01\x09"), []byte("\x01\x01\x01\x02"), uint64(2), 2, true, uint64(2), 1, false)
	f.Add([]byte("\x01\x01"), []byte("\x01\x01\x02\x02"), uint64(3), -1, false, uint64(1), 9, true)
	f.Fuzz(func(t *testing.T, first, second []byte, epoch uint64, before int, leased bool, otherEpoch uint64, otherBefore int, otherLeased bool) {
		lists := [2][]api.Guid{}
		for i, b := range [][]byte{first, second} {
			for ; len(b) >= 2 && len(lists[i]) < 40; b = b[2:] {
				lists[i] = append(lists[i], guid(uint64(b[0]), uint64(b[1])))
			}
		}
		a := api.Line{Epoch: epoch, Before: before, Leased: leased, List: lists[0]}
		b := api.Line{Epoch: otherEpoch, Before: otherBefore, Leased: otherLeased, List: lists[1]}
		holdsAll(t, lists[1], a, b)
		holdsAll(t, lists[0], b, a)
		follows(t, lists[1], a)
		follows(t, lists[0], b)
		merged(t, a, b)
	})
}
