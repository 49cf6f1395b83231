package log

import (
	"testing"

	"stemma/api"
)

// What follows reads the chapter word by word, entry by entry, without a thought of how the package does it.

// entryAt answers the entry of that number, and whether there is one.
func entryAt(l []api.Entry, number int) (api.Entry, bool) {
	for i, e := range l {
		if i+1 == number {
			return e, true
		}
	}
	return api.Entry{}, false
}

// plainLast answers the last term.
func plainLast(l []api.Entry) uint64 {
	last, _ := entryAt(l, len(l))
	return last.Term
}

// plainCheck answers what Check does.
func plainCheck(l []api.Entry) api.Errno {
	if len(l) > 300 {
		return api.ErrLong
	}
	for i, e := range l {
		ahead, is := entryAt(l, i)
		zeros := e.Guid.Epoch == 0 && e.Guid.Count == 0
		switch {
		case e.Term < 1:
			return api.ErrArg
		case is && e.Term < ahead.Term:
			return api.ErrArg
		case e.Kind < 1 || e.Kind > 3:
			return api.ErrArg
		case e.Kind != 3 && !zeros:
			return api.ErrArg
		case e.Kind == 3 && (e.Guid.Epoch < 1 || e.Guid.Count < 1):
			return api.ErrArg
		}
	}
	return api.OK
}

// plainSame answers what Same does.
func plainSame(a, b []api.Entry) bool {
	for number := 1; ; number++ {
		x, is := entryAt(a, number)
		y, too := entryAt(b, number)
		if !is && !too {
			return true
		}
		if is != too || x.Term != y.Term || x.Kind != y.Kind || x.Guid.Epoch != y.Guid.Epoch || x.Guid.Count != y.Guid.Count {
			return false
		}
	}
}

// plainFits answers what Fits does.
func plainFits(l []api.Entry, prev int, term uint64) bool {
	if prev == 0 && term == 0 {
		return true
	}
	e, is := entryAt(l, prev)
	return is && e.Term == term
}

// plainNewer answers what Newer does.
func plainNewer(term uint64, n int, l []api.Entry) bool {
	last := plainLast(l)
	return term > last || term == last && !(n < len(l))
}

// plainJoin answers what Join does.
func plainJoin(l []api.Entry, prev int, more []api.Entry) []api.Entry {
	if prev < 0 || prev > len(l) {
		return l
	}
	first := 0 // the number of the first entry of more that l does not have with the same Term
	for i := len(more) - 1; i >= 0; i-- {
		number := prev + 1 + i
		e, is := entryAt(l, number)
		if !is || e.Term != more[i].Term {
			first = number
		}
	}
	if first == 0 {
		return l
	}
	var joined []api.Entry
	for number := 1; number < first; number++ {
		e, _ := entryAt(l, number)
		joined = append(joined, e)
	}
	for i, e := range more {
		if prev+1+i >= first {
			joined = append(joined, e)
		}
	}
	return joined
}

// plainFold answers what Fold does.
func plainFold(l []api.Entry, commit int) api.Line {
	if commit > len(l) {
		commit = len(l)
	}
	if commit <= 0 {
		return api.Line{}
	}
	x := plainFold(l, commit-1)
	e := l[commit-1]
	if e.Kind == 1 {
		x = api.Line{Epoch: e.Term, Before: len(x.List), List: x.List}
	}
	if e.Kind == 2 && e.Term == x.Epoch {
		x.Leased = true
	}
	if e.Kind == 3 && e.Guid.Epoch == e.Term && e.Guid.Epoch == x.Epoch {
		if len(x.List) == 0 || isAbove(e.Guid, x.List[len(x.List)-1]) {
			x.List = append(x.List, e.Guid)
		}
	}
	return x
}

// isAbove tells whether g is above other.
func isAbove(g, other api.Guid) bool {
	return g.Epoch > other.Epoch || g.Epoch == other.Epoch && g.Count > other.Count
}

// holdsAll holds each call, of these arguments, against the chapter.
func holdsAll(t *testing.T, l, more []api.Entry, n int, term uint64) {
	t.Helper()
	checks(t, l, plainCheck(l))
	same(t, l, more, plainSame(l, more))
	fits(t, l, n, term, plainFits(l, n, term))
	newer(t, term, n, l, plainNewer(term, n, l))
	joins(t, l, n, more, plainJoin(l, n, more))
	folds(t, l, n, plainFold(l, n))
}

// draws answers a draw from 0 on, below what it is asked for, from a short rule, so that each run does the same.
func draws(seed uint64) func(n int) int {
	return func(n int) int {
		seed = seed*6364136223846793005 + 1442695040888963407
		return int(seed >> 33 % uint64(n))
	}
}

// drawnLog answers a log that may be, its terms from first on.
func drawnLog(draw func(n int) int, first uint64) []api.Entry {
	var l []api.Entry
	term, count := first, uint64(1)
	for range draw(14) {
		if draw(4) == 0 {
			term += uint64(draw(3))
		}
		e := api.Entry{Term: term, Kind: 1 + draw(3)}
		if e.Kind == api.EntCommit {
			e.Guid = guid(max(term-uint64(draw(8)/7), 1)+uint64(draw(12)/11), count)
			count += uint64(draw(3))
		}
		l = append(l, e)
	}
	return l
}

// drawnList answers entries of any kind, few of which may stand in a log.
func drawnList(draw func(n int) int) []api.Entry {
	var l []api.Entry
	for range draw(8) {
		g := guid(uint64(draw(3)), uint64(draw(3)))
		l = append(l, api.Entry{Term: uint64(draw(3)), Kind: draw(5), Guid: g})
	}
	return l
}

// drawnPair answers a log, and another one that has its beginning.
func drawnPair(draw func(n int) int) (l, other []api.Entry) {
	if draw(4) == 0 {
		l, other = drawnList(draw), drawnList(draw)
	} else {
		l, other = drawnLog(draw, 1+uint64(draw(3))), drawnLog(draw, 1+uint64(draw(4)))
	}
	alike := draw(len(l) + 1)
	return l, append(l[:alike:alike], other...)
}

// P13.1 to P13.4: many lists, held against a plain reading of the chapter.
func TestManyLists(t *testing.T) {
	var may, kept, cut, leased, listed int
	for seed := range uint64(40000) {
		draw := draws(seed)
		l, other := drawnPair(draw)
		from := draw(len(other) + 1)
		more := other[from : from+draw(len(other)-from+1)]
		// The numbers are mostly those at which the second one belongs.
		n := from
		if draw(3) == 0 {
			n = draw(len(l)+4) - 2
		}
		holdsAll(t, l, more, n, uint64(draw(6)))
		if plainCheck(l) == api.OK && len(l) > 0 {
			may++
		}
		if len(more) > 0 && n >= 0 && n <= len(l) {
			joined := plainJoin(l, n, more)
			if plainSame(joined, l) {
				kept++
			}
			if len(l) > n+len(more) && !plainSame(joined, l) {
				cut++
			}
		}
		x := plainFold(l, n)
		if x.Leased {
			leased++
		}
		if x.Before > 0 && len(x.List) > x.Before {
			listed++
		}
	}
	if may < 10000 || kept < 1000 || cut < 1000 || leased < 1000 || listed < 300 {
		t.Errorf("the draws say little: %d, %d, %d, %d, %d", may, kept, cut, leased, listed)
	}
}

// P13.1 to P13.4: all lists of up to three entries of some, each held against a plain reading of the chapter.
func TestAllShortLists(t *testing.T) {
	some := entries("1e 2e 1s 2s 1c1.1 1c1.2 2c2.1 2c1.3 0e 1z 0c0.1 2x")
	lists := [][]api.Entry{nil}
	ends := 0
	for range 3 {
		begins := lists[ends:]
		ends = len(lists)
		for _, l := range begins {
			for _, e := range some {
				lists = append(lists, append(l[:len(l):len(l)], e))
			}
		}
	}
	for i, l := range lists {
		more := lists[i*31%len(lists)]
		for n := -1; n <= len(l)+1; n++ {
			holdsAll(t, l, more, n, uint64(n+1)%3)
			if len(l) > 0 && n >= 0 && n <= len(l) {
				holdsAll(t, l, l[n:], n, plainLast(l[:n]))
			}
		}
	}
}

// FuzzLists asks lists of any entries what the chapter says of them.
func FuzzLists(f *testing.F) {
	f.Add([]byte("\x01\x01\x00\x00\x01\x02\x00\x00\x01\x03\x01\x01\x02\x01\x00\x00"), 2, 1, uint64(1))
	f.Add([]byte("\x01\x01\x00\x00\x02\x03\x01\x01"), 5, -1, uint64(0))
	f.Fuzz(func(t *testing.T, b []byte, at, n int, term uint64) {
		var l []api.Entry
		for ; len(b) >= 4 && len(l) < 400; b = b[4:] {
			g := guid(uint64(b[2]), uint64(b[3]))
			l = append(l, api.Entry{Term: uint64(b[0]), Kind: int(int8(b[1])), Guid: g})
		}
		at = min(max(at, 0), len(l))
		holdsAll(t, l[:at], l[at:], n, term)
		follows(t, l[:at], n, l[at:])
		grows(t, l)
	})
}
