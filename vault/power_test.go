package vault

import (
	"fmt"
	"slices"
	"testing"

	"stemma/api"
	"stemma/disk"
	"stemma/frame"
	"stemma/journal"
	"stemma/meta"
	"stemma/wire"
)

// ways answers what may stay of n unflushed writes: all ways, if these are few; else none, all, each one alone, all but each one, and some drawn ones. Some have more than n.
func ways(n int) [][]bool {
	if n <= 4 {
		var l [][]bool
		for bits := range 1 << n {
			keep := make([]bool, n)
			for i := range keep {
				keep[i] = bits>>i&1 == 1
			}
			l = append(l, keep)
		}
		return l
	}
	l := [][]bool{nil, slices.Repeat([]bool{true}, 2*n)}
	for i := range n {
		keep, others := make([]bool, n), slices.Repeat([]bool{true}, n)
		keep[i], others[i] = true, false
		l = append(l, keep, others)
	}
	draw := draws(uint64(n))
	for range 8 {
		keep := make([]bool, n)
		for i := range keep {
			keep[i] = draw(2) == 0
		}
		l = append(l, keep)
	}
	return l
}

// scene is a deed, and what was done ahead of it.
type scene struct {
	blocks int
	ahead  []deed
	deed   deed
}

// scenes answers each call that changes something, in small vaults and in great ones.
func scenes() []scene {
	one, two, three := guid(1, 1), guid(1, 2), guid(1, 3)
	some := []deed{write(0, "a"), write(2, "b"), snap(1, 1), write(1, "c"), write(0, "\x00"), snap(1, 2), write(2, "d")}
	part := append(slices.Clone(some), stage(two, three, 1, 3, "0e 2"))
	var l []scene
	for _, x := range []deed{write(0, "a"), write(1, "\x00"), snap(1, 1), rollback(0), forget(), stage(none, one, 0, 0, ""), stage(none, one, 1, 2, "0a"), stage(none, one, 2, 3, ""), stage(none, one, 3, 3, "0a 1b 2c")} {
		l = append(l, scene{3, nil, x})
	}
	for _, x := range []deed{write(0, "x"), write(2, "x"), write(2, "\x00"), snap(1, 3), rollback(0), rollback(1), rollback(2), hide(1, 1), hide(1, 2), stage(two, three, 1, 3, "0x 1 2y"), stage(two, three, 3, 3, "0x 1 2y")} {
		l = append(l, scene{3, some, x}, scene{3, part, x})
	}
	for _, x := range []deed{forget(), stage(two, three, 2, 3, "1f"), stage(two, three, 3, 3, "1f"), stage(two, three, 3, 3, ""), stage(two, guid(2, 1), 1, 2, "1g"), stage(two, guid(2, 1), 2, 2, "0g")} {
		l = append(l, scene{3, part, x})
	}
	var many []deed
	for n := range uint64(19) {
		many = append(many, write(int(n%8), string(rune('a'+n))), snap(1<<40, 1+n))
	}
	last, all := guid(1<<40, 19), "0A 1B 2C 3D 4E 5F 6G 7H"
	for _, x := range []deed{write(3, "x"), snap(1<<40, 20), rollback(3), hide(1<<40, 7), stage(last, guid(1<<40, 20), 4, 8, all), stage(last, guid(1<<40, 20), 8, 8, all)} {
		l = append(l, scene{8, many, x})
	}
	return l
}

// outcome asks that behind a Wake and Open the vault is as it was ahead of the deed, or as the deed makes it, all of it, and answers which one.
func outcome(t *testing.T, what string, d *disk.Disk, ahead, behind *model) *model {
	t.Helper()
	// What an image holds stays, whether a vault is opened or not.
	for at := range ahead.held() {
		if data, e := d.Read(at); e != api.OK || data != ahead.data[at] {
			t.Fatalf("%s: %s lies in %d, not %s", what, short(data), at, short(ahead.data[at]))
		}
	}
	v := opened(t, d)
	is := ahead
	if meta.Same(tableOn(t, d), behind.table) {
		is = behind
	}
	alike(t, what, d, v, is)
	return is
}

// P10.5: the power goes at each operation of each call, whatever stays of what was not flushed.
func TestPowerGoesAnywhere(t *testing.T) {
	for _, s := range scenes() {
		d, _, ahead := made(t, 400, s.blocks, s.ahead...)
		behind := ahead.copy()
		writes, _ := behind.do(s.deed)
		l := commits(t, d, behind.table, writes)
		was, is := 0, 0
		for fuse := 1; ; fuse++ {
			now := d.Copy()
			v := opened(t, now)
			now.Arm(fuse)
			e := s.deed.do(v)
			n, goes := unflushed(t, l, fuse)
			if now.On() == goes || goes != (e == api.ErrOff) || !goes && e != api.OK {
				t.Fatalf("%v with the fuse %d: %d", s.deed, fuse, e)
			}
			if !goes {
				break
			}
			for _, keep := range ways(n) {
				what := fmt.Sprintf("%v with the fuse %d, %v", s.deed, fuse, keep)
				left := now.Copy()
				left.Wake(keep)
				if outcome(t, what, left, ahead, behind) == behind {
					is++
					continue
				}
				was++
				// It goes on as if nothing had been.
				if e := s.deed.do(opened(t, left)); e != api.OK || !meta.Same(tableOn(t, left), behind.table) {
					t.Errorf("%s, and once more: %d", what, e)
				}
			}
		}
		if !meta.Same(ahead.table, behind.table) && (was == 0 || is == 0) {
			t.Errorf("%v: never as it was, or never as it is made: %d, %d", s.deed, was, is)
		}
	}
}

// unflushed answers how many writes are unflushed when the power goes at that operation of a Commit of l, and whether there is such an operation.
func unflushed(t *testing.T, l []api.Write, fuse int) (int, bool) {
	t.Helper()
	text := wire.PutNum("", uint64(len(l)))
	for _, w := range l {
		text = wire.PutText(wire.PutNum(text, uint64(w.At)), w.Data)
	}
	left := fuse - 1 // operations that are done
	// The record, the head, and l, and a flush behind each.
	for _, writes := range []int{frame.Size(text), 1, len(l)} {
		if left <= writes {
			return left, len(l) > 0
		}
		left -= writes + 1
	}
	return 0, false
}

// P10.3, P10.4: a change is one Commit, of the sectors of the table's text that are others, rising, and of the blocks, in order: the same operations, wherever the power goes.
func TestChangesAreOneCommit(t *testing.T) {
	for _, s := range scenes() {
		d, _, m := made(t, 400, s.blocks, s.ahead...)
		writes, _ := m.do(s.deed)
		l := commits(t, d, m.table, writes)
		for fuse, goes := 1, true; goes; fuse++ {
			var n int
			n, goes = unflushed(t, l, fuse)
			now, other := d.Copy(), d.Copy()
			v := opened(t, now)
			is(t, "Recover", journal.Recover(other), api.OK)
			now.Arm(fuse)
			other.Arm(fuse)
			is(t, s.deed.String(), s.deed.do(v), journal.Commit(other, l))
			if now.On() != other.On() {
				t.Fatalf("%v with the fuse %d: the power is on: %t", s.deed, fuse, now.On())
			}
			now.Off()
			other.Off()
			for _, keep := range ways(n) {
				one, two := now.Copy(), other.Copy()
				one.Wake(keep)
				two.Wake(keep)
				if sectorsOf(one) != sectorsOf(two) {
					t.Fatalf("%v with the fuse %d, %v: not what one Commit makes", s.deed, fuse, keep)
				}
			}
		}
	}
}

// P10.5: the power goes in Open, too, again and again.
func TestPowerGoesInOpen(t *testing.T) {
	x := stage(guid(1, 1), guid(1, 2), 3, 3, "0x 1 2y")
	d, _, ahead := made(t, 300, 3, write(1, "a"), snap(1, 1))
	behind := ahead.copy()
	behind.do(x)
	for fuse := 1; ; fuse++ {
		now := d.Copy()
		v := opened(t, now)
		now.Arm(fuse)
		x.do(v)
		if now.On() {
			break
		}
		now.Wake([]bool{fuse%2 == 0, fuse%3 == 0, true})
		want := now.Copy()
		is := outcome(t, "Open", want, ahead, behind)
		for n := 1; ; n++ {
			now.Arm(n)
			if v, e := Open(now); e == api.OK {
				now.Arm(0)
				alike(t, "Open at last", now, v, is)
				break
			} else if e != api.ErrOff || v != nil {
				t.Fatalf("Open: %v, %d", v, e)
			}
			now.Wake([]bool{n%2 == 0, n%3 == 0, n%2 == 1})
		}
	}
}

// cutFormat does a Format of three blocks on copies of the disk, the power of which goes at each of its operations, and hands on what is left then.
func cutFormat(t *testing.T, d *disk.Disk, look func(what string, left *disk.Disk)) {
	t.Helper()
	for fuse := 1; ; fuse++ {
		now := d.Copy()
		now.Arm(fuse)
		e := Format(now, 3)
		if now.On() {
			is(t, "Format", e, api.OK)
			return
		}
		what := fmt.Sprintf("Format with the fuse %d", fuse)
		is(t, what, e, api.ErrOff)
		for _, keep := range ways(4) {
			left := now.Copy()
			left.Wake(keep)
			look(fmt.Sprintf("%s, %v", what, keep), left)
		}
	}
}

// P10.1, P10.5: the power goes in Format of a new disk: there is no vault, or the new one.
func TestPowerGoesInFormat(t *testing.T) {
	was, is := 0, 0
	behind := newModel(3, 300)
	cutFormat(t, disk.New(300, 300), func(what string, left *disk.Disk) {
		if _, e := Open(left.Copy()); e == api.ErrBroken {
			was++
			return
		}
		outcome(t, what, left, behind, behind)
		is++
	})
	if was == 0 || is == 0 {
		t.Errorf("never as it was, or never the new one: %d, %d", was, is)
	}
}

// P10.1, P10.5: the power goes in Format of a disk that has a vault: it is that one, or the new one.
func TestPowerGoesInFormatAgain(t *testing.T) {
	was, is := 0, 0
	d, _, ahead := made(t, 300, 2, write(0, "a"), snap(1, 1), stage(guid(1, 1), guid(1, 2), 1, 2, "1b"))
	behind := newModel(3, 300)
	cutFormat(t, d, func(what string, left *disk.Disk) {
		if outcome(t, what, left, ahead, behind) == ahead {
			was++
		} else {
			is++
		}
	})
	if was == 0 || is == 0 {
		t.Errorf("never as it was, or never the new one: %d, %d", was, is)
	}
}

// P10.5, P10.6, W4: vaults that go on through many calls, in some of which the power goes; what comes in part goes on behind that.
func TestManyPowerCuts(t *testing.T) {
	cuts, done, left := 0, 0, 0
	for seed := range uint64(30) {
		draw := draws(seed + 500)
		blocks := 1 + draw(8)
		d, v, m := made(t, 193+10+draw(60), blocks)
		for range 120 {
			x := drawn(m, draw)
			behind := m.copy()
			if _, want := behind.do(x); want != api.OK {
				refuses(t, d, v, x, want)
				continue
			}
			d.Arm(draw(40))
			e := x.do(v)
			d.Arm(0)
			if e == api.OK {
				m = behind
				alike(t, x.String(), d, v, m)
				continue
			}
			is(t, x.String(), e, api.ErrOff)
			cuts++
			keep := make([]bool, draw(30))
			for i := range keep {
				keep[i] = draw(2) == 0
			}
			d.Wake(keep)
			if now := outcome(t, x.String(), d, m, behind); now == behind {
				done++
				m = behind
			} else {
				left++
			}
			v = opened(t, d)
		}
	}
	if cuts < 200 || done < 30 || left < 30 {
		t.Errorf("the draws say little: %d %d %d", cuts, done, left)
	}
}
