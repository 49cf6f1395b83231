package vault

import (
	"fmt"
	"math"
	"slices"
	"strings"
	"testing"

	"stemma/api"
	"stemma/disk"
	"stemma/frame"
	"stemma/journal"
	"stemma/wire"
)

// lists asks that those are the snapshots' guids.
func lists(t *testing.T, what string, v *Vault, want ...api.Guid) {
	t.Helper()
	if l := v.List(); !slices.Equal(l, want) {
		t.Errorf("%s: List: %v, not %v", what, l, want)
	}
}

// shows asks that the live volume has those blocks.
func shows(t *testing.T, what string, v *Vault, letters string) {
	t.Helper()
	if l, e := v.Live(); e != api.OK || !slices.Equal(l, blocksOf(letters)) {
		t.Errorf("%s: the live volume is %s, %d, not %s", what, told(l), e, letters)
	}
}

// reads asks that the snapshot g has those blocks.
func reads(t *testing.T, what string, v *Vault, g api.Guid, letters string) {
	t.Helper()
	if l, e := v.Read(g); e != api.OK || !slices.Equal(l, blocksOf(letters)) {
		t.Errorf("%s: Read(%v): %s, %d, not %s", what, g, told(l), e, letters)
	}
}

// unread asks that the snapshot g is not read, for that error.
func unread(t *testing.T, what string, v *Vault, g api.Guid, want api.Errno) {
	t.Helper()
	if l, e := v.Read(g); e != want || l != nil {
		t.Errorf("%s: Read(%v): %s, %d, not %d", what, g, told(l), e, want)
	}
}

// differs asks that those are the n-th snapshot's changes.
func differs(t *testing.T, what string, v *Vault, n int, words string) {
	t.Helper()
	if l, e := v.Changes(n); e != api.OK || !slices.Equal(l, changesOf(words)) {
		t.Errorf("%s: Changes(%d): %s, %d, not %s", what, n, toldChanges(l), e, words)
	}
}

// noChanges asks that there is no n-th snapshot.
func noChanges(t *testing.T, what string, v *Vault, n int) {
	t.Helper()
	if l, e := v.Changes(n); e != api.ErrNone || l != nil {
		t.Errorf("%s: Changes(%d): %s, %d, not ErrNone", what, n, toldChanges(l), e)
	}
}

// has asks that the token is that one.
func has(t *testing.T, what string, v *Vault, want api.Token) {
	t.Helper()
	if k := v.Token(); fmt.Sprintf("%+v", k) != fmt.Sprintf("%+v", want) {
		t.Errorf("%s: Token: %+v, not %+v", what, k, want)
	}
}

// unopened asks that no vault lies on the disk, for that error.
func unopened(t *testing.T, what string, d *disk.Disk, want api.Errno) {
	t.Helper()
	if v, e := Open(d); e != want || v != nil {
		t.Errorf("%s: Open: %v, %d, not %d", what, v, e, want)
	}
}

// laySectors writes the sectors from that one on, and flushes them.
func laySectors(t *testing.T, d *disk.Disk, at int, sectors ...string) {
	t.Helper()
	for i, data := range sectors {
		is(t, fmt.Sprintf("Write of the sector %d", at+i), d.Write(at+i, data), api.OK)
	}
	is(t, "Flush", d.Flush(), api.OK)
}

// packed answers a text's sectors.
func packed(t *testing.T, text string) []string {
	t.Helper()
	l, e := frame.Pack(text)
	is(t, "Pack", e, api.OK)
	return l
}

// formatted answers a disk of so many sectors, with room, on which there is a journal, and those sectors from Home on.
func formatted(t *testing.T, sectors int, from ...string) *disk.Disk {
	t.Helper()
	d := disk.New(sectors, sectors)
	is(t, "Format of the journal", journal.Format(d), api.OK)
	laySectors(t, d, 145, from...)
	return d
}

// The chapter's table, row by row.
func TestExamples(t *testing.T) {
	d := disk.New(250, 250)
	unopened(t, "row 1", d, api.ErrBroken)
	is(t, "row 1: Format", Format(d, 2), api.OK)
	v := opened(t, d)
	if v.Blocks() != 2 {
		t.Errorf("row 1: Blocks: %d", v.Blocks())
	}
	shows(t, "row 1", v, "  ")

	one, two := guid(1, 1), guid(1, 2)
	is(t, "row 2: Write", v.Write(0, of("a")), api.OK)
	is(t, "row 2: Snap", v.Snap(one), api.OK)
	is(t, "row 2: Write", v.Write(0, of("\x00")), api.OK)
	reads(t, "row 2", v, one, "a ")
	shows(t, "row 2", v, "  ")

	is(t, "row 3: Stage", stage(one, two, 1, 2, "0").do(v), api.OK)
	lists(t, "row 3", v, one)
	has(t, "row 3", v, api.Token{Base: one, Target: two, Next: 1, All: 2, Image: []int{0, 0}})

	is(t, "row 4: Stage", stage(one, two, 2, 2, "1a").do(v), api.OK)
	lists(t, "row 4", v, one, two)
	reads(t, "row 4", v, two, " a")
	has(t, "row 4", v, api.Token{})

	refuses(t, d, v, stage(one, guid(1, 3), 1, 1, ""), api.ErrArg)
	is(t, "row 5: Rollback", v.Rollback(1), api.OK)
	shows(t, "row 5", v, "a ")
}

// The document's example of the whole.
func TestExampleOfTheWhole(t *testing.T) {
	_, v, _ := made(t, 300, 1, write(0, "a"), snap(1, 1), write(0, "\x00"))
	reads(t, "1.1", v, guid(1, 1), "a")
}

// P10.1: of which disks, and how many blocks, there are vaults.
func TestFormat(t *testing.T) {
	for _, blocks := range []int{math.MinInt, -257, -8, -1, 0, 9, 10, 255, 256, 257, 1 << 32, 1<<32 + 1, math.MaxInt} {
		d := disk.New(300, 300)
		had := sectorsOf(d)
		is(t, fmt.Sprintf("Format of %d blocks", blocks), Format(d, blocks), api.ErrArg)
		if sectorsOf(d) != had {
			t.Errorf("Format of %d blocks changed the disk", blocks)
		}
		unopened(t, "no Format", d, api.ErrBroken)
	}
	for _, sectors := range []int{1, 145, 146, 191, 192} {
		d := disk.New(sectors, 1024)
		had := sectorsOf(d)
		is(t, fmt.Sprintf("Format of %d sectors", sectors), Format(d, 1), api.ErrArg)
		if sectorsOf(d) != had {
			t.Errorf("Format of %d sectors changed the disk", sectors)
		}
	}
	for _, sectors := range []int{193, 194, 1024} {
		for blocks := 1; blocks <= 8; blocks++ {
			d, v, m := made(t, sectors, blocks)
			// The numbers of a table of zeros are put down here apart: how many blocks, zeros, no snapshots, no token.
			text := "\x01" + string(rune(blocks)) + strings.Repeat("\x00", blocks+2)
			if data, e := d.Read(145); e != api.OK || data != packed(t, text)[0] {
				t.Errorf("%d blocks: %q lies at Home", blocks, data)
			}
			shows(t, "Format", v, strings.Repeat(" ", blocks))
			lists(t, "Format", v)
			has(t, "Format", v, api.Token{})
			does(t, d, v, m, write(0, "\x00"), snap(1, 1))
		}
	}
}

// P10.1: a disk with no sector for blocks, and with one.
func TestFewestSectors(t *testing.T) {
	d, v, m := made(t, 193, 2)
	refuses(t, d, v, write(0, "a"), api.ErrFull)
	does(t, d, v, m, write(1, "\x00"), snap(1, 1), stage(guid(1, 1), guid(1, 2), 1, 2, "0 1"))
	refuses(t, d, v, stage(guid(1, 1), guid(1, 2), 2, 2, "0a"), api.ErrFull)

	d, v, m = made(t, 194, 2)
	refuses(t, d, v, stage(none, guid(1, 1), 2, 2, "0a 1a"), api.ErrFull)
	does(t, d, v, m, write(1, "a"))
	refuses(t, d, v, write(1, "b"), api.ErrFull)
	does(t, d, v, m, write(1, "\x00"), write(0, "b"))
	if data, e := d.Read(193); e != api.OK || data != of("b") {
		t.Errorf("%s lies in 193", short(data))
	}
}

// P10.1: Format's errors, in order: each line has one more than what comes behind it.
func TestFormatErrorsInOrder(t *testing.T) {
	is(t, "no disk, no blocks", Format(nil, 0), api.ErrNil)
	is(t, "no disk", Format(nil, 1), api.ErrNil)
	small, off, full := disk.New(192, 0), disk.New(300, 0), disk.New(300, 0)
	small.Off()
	off.Off()
	is(t, "few sectors, no power, no room", Format(small, 1), api.ErrArg)
	is(t, "no blocks, no power, no room", Format(off, 0), api.ErrArg)
	is(t, "too many blocks, no power, no room", Format(off, 9), api.ErrArg)
	is(t, "no blocks, no room", Format(full, 0), api.ErrArg)
	is(t, "no power, no room", Format(off, 1), api.ErrOff)
	is(t, "no room", Format(full, 1), api.ErrFull)
	full.Arm(1)
	is(t, "no room, a fuse", Format(full, 1), api.ErrFull)
	if !full.On() {
		t.Error("what is refused takes from a fuse")
	}
}

// P10.1, P10.6: a head, a record of two sectors, and the table's sector have to have room; else nothing is laid, not even a journal.
func TestFormatRoom(t *testing.T) {
	for room := range 7 {
		d := disk.New(300, room)
		had := sectorsOf(d)
		want := api.ErrFull
		if room >= 4 {
			want = api.OK
		}
		is(t, fmt.Sprintf("Format with the room %d", room), Format(d, 3), want)
		if want == api.OK {
			shows(t, "Format", opened(t, d), "   ")
			continue
		}
		if sectorsOf(d) != had {
			t.Errorf("Format with the room %d changed the disk", room)
		}
		unopened(t, "no Format", d, api.ErrBroken)
		d.SetRoom(4)
		is(t, "Format with more room", Format(d, 3), api.OK)
	}
}

// P10.6: a record that is not done yet stays, if there is no room for a table.
func TestFormatKeepsRecord(t *testing.T) {
	d := formatted(t, 300)
	d.Arm(6) // a record of two sectors, and the head, are flushed
	is(t, "Commit", journal.Commit(d, []api.Write{{At: 200, Data: of("a")}}), api.ErrOff)
	d.Wake(nil)
	d.SetRoom(d.Used())
	had := sectorsOf(d)
	is(t, "Format without room", Format(d, 1), api.ErrFull)
	if sectorsOf(d) != had {
		t.Error("Format without room changed the disk")
	}
	d.SetRoom(300)
	is(t, "Recover", journal.Recover(d), api.OK)
	if data, _ := d.Read(200); data != of("a") {
		t.Error("Format without room forgot the record")
	}
}

// P10.1: Format is a journal's Format, and one Commit: the same operations.
func TestFormatOperations(t *testing.T) {
	for fuse := range 12 {
		for _, keep := range ways(4) {
			d, other := disk.New(300, 300), disk.New(300, 300)
			d.Arm(fuse)
			other.Arm(fuse)
			want := journal.Format(other)
			if want == api.OK {
				want = journal.Commit(other, []api.Write{{At: 145, Data: packed(t, "\x01\x03\x00\x00\x00\x00\x00")[0]}})
			}
			is(t, fmt.Sprintf("Format with the fuse %d", fuse), Format(d, 3), want)
			if d.On() != other.On() {
				t.Errorf("the fuse %d: the power is on: %t", fuse, d.On())
			}
			d.Off()
			other.Off()
			d.Wake(keep)
			other.Wake(keep)
			if sectorsOf(d) != sectorsOf(other) {
				t.Errorf("the fuse %d, %v: Format made another disk", fuse, keep)
			}
		}
	}
}

// P10.1: Format of a disk that has a vault makes another one.
func TestFormatAgain(t *testing.T) {
	d, _, _ := made(t, 250, 2, write(0, "a"), snap(1, 1), write(1, "b"), stage(guid(1, 1), guid(1, 2), 1, 2, "0c"))
	is(t, "no Format", Format(d, 0), api.ErrArg)
	shows(t, "no Format", opened(t, d), "ab")
	d.SetRoom(0) // all that is written has been written by now
	is(t, "Format", Format(d, 5), api.OK)
	d.SetRoom(250)
	v, m := opened(t, d), newModel(5, 250)
	alike(t, "Format", d, v, m)
	does(t, d, v, m, write(4, "x"), snap(1, 1))
}

// P10.1: Open of what is no vault.
func TestOpenOfNone(t *testing.T) {
	unopened(t, "no disk", nil, api.ErrNil)
	d := disk.New(300, 300)
	unopened(t, "a new disk", d, api.ErrBroken)
	d.Off()
	unopened(t, "a disk without power", d, api.ErrOff)
	unopened(t, "a journal alone", formatted(t, 300), api.ErrBroken)
	d = disk.New(300, 300)
	laySectors(t, d, 145, textsSectors(t, api.Meta{Live: []int{0}})...)
	unopened(t, "a table without a journal", d, api.ErrBroken)
	d, _, _ = made(t, 300, 2, write(0, "a"))
	d.Off()
	unopened(t, "a vault without power", d, api.ErrOff)
	d.Wake(nil)
	shows(t, "with power", opened(t, d), "a ")
	laySectors(t, d, 0, of("\x00"))
	unopened(t, "a vault without a head", d, api.ErrBroken)
}

// P10.1: sectors that hold no text, or one that is no table's.
func TestOpenOfNoTable(t *testing.T) {
	whole := "\x01\x01\x01\xc1\x00\x00" // one block, in 193
	long := strings.Repeat("x", 48*32-6)
	for _, x := range []struct {
		what    string
		sectors []string
	}{
		{"no text", []string{of("x")}},
		{"many sectors of no text", slices.Repeat([]string{of("\x00\x01")[:32]}, 48)},
		{"a spoilt text", []string{strings.Replace(packed(t, whole)[0], "\xc1", "\xc2", 1)}},
		{"a text of no bytes", packed(t, "")},
		{"a text that is none", packed(t, "table")},
		{"a text of 48 sectors", packed(t, long)},
		{"a text of 49 sectors", packed(t, long+"x")},
		{"less bytes", packed(t, whole[:len(whole)-1])},
		{"more bytes", packed(t, whole+"\x00")},
		{"a number in more bytes", packed(t, "\x02\x00\x01"+whole[2:])},
		{"no blocks", packed(t, "\x00\x00\x00")},
		{"nine blocks", packed(t, "\x01\x09"+strings.Repeat("\x00", 11))},
		{"a sector of the journal", packed(t, "\x01\x01\x01\x90\x00\x00")},
		{"a sector of the table", packed(t, "\x01\x01\x01\xc0\x00\x00")},
		{"a sector twice", packed(t, "\x01\x02\x01\xc1\x01\xc1\x00\x00")},
		{"a snapshot of no guid", packed(t, "\x01\x01\x00\x01\x01\x00\x00\x00\x00\x00")},
		{"a token that is whole", packed(t, "\x01\x01\x00\x00\x01\x01\x00\x00\x01\x01\x01\x01\x01\x01\x01\x01\x00")},
		{"a table behind a text", append(packed(t, "x"), packed(t, whole)...)},
		{"a table one sector on", append([]string{of("x")}, packed(t, whole)...)},
	} {
		d := formatted(t, 300, x.sectors...)
		had := sectorsOf(d)
		unopened(t, x.what, d, api.ErrBroken)
		if sectorsOf(d) != had {
			t.Errorf("%s: Open changed the disk", x.what)
		}
	}
	v := opened(t, formatted(t, 300, packed(t, whole)...))
	shows(t, "a table", v, " ")
}

// P10.1: a table that may be only on a disk that has more sectors.
func TestOpenOfTooFewSectors(t *testing.T) {
	last, next := guid(2, 1), guid(2, 2)
	for what, m := range map[string]api.Meta{
		"live":       {Live: []int{0, 299}},
		"a snapshot": {Live: []int{0, 0}, Snaps: []api.Snap{{Guid: last, Image: []int{299, 0}}}},
		"one ahead":  {Live: []int{0, 0}, Snaps: []api.Snap{{Guid: guid(1, 1), Image: []int{299, 0}}, {Guid: last, Image: []int{0, 0}}}},
		"hidden":     {Live: []int{0, 0}, Snaps: []api.Snap{{Guid: last, Image: []int{0, 299}, Hidden: true}}},
		"a token":    {Live: []int{0, 0}, Snaps: []api.Snap{{Guid: last, Image: []int{0, 0}}}, Token: api.Token{Base: last, Target: next, Next: 1, All: 2, Image: []int{0, 299}}},
	} {
		l := textsSectors(t, m)
		unopened(t, what, formatted(t, 298, l...), api.ErrBroken)
		unopened(t, what, formatted(t, 299, l...), api.ErrBroken)
		unopened(t, what, formatted(t, 193, l...), api.ErrBroken)
		for _, sectors := range []int{300, 301, 1024} {
			v := opened(t, formatted(t, sectors, l...))
			has(t, what, v, m.Token)
			if len(v.List()) != len(m.Snaps) || v.Blocks() != 2 {
				t.Errorf("%s: %v", what, v.List())
			}
		}
	}
}

// P10.1: disks that no Format takes: what they hold counts, and an error of reading, if they end ahead of it.
func TestOpenOfSmallDisks(t *testing.T) {
	table := textsSectors(t, api.Meta{Live: []int{0, 0}})
	for _, sectors := range []int{146, 150, 192} {
		unopened(t, "zeros", formatted(t, sectors), api.ErrBroken)
		v := opened(t, formatted(t, sectors, table...))
		is(t, "Write", v.Write(0, of("a")), api.ErrFull)
		is(t, "Write", v.Write(0, of("\x00")), api.OK)
		is(t, "Snap", v.Snap(guid(1, 1)), api.OK)
		shows(t, "a small disk", v, "  ")
	}
	// The table's second sector is none of the disk.
	d := formatted(t, 146, table...)
	v := opened(t, d)
	for n := range uint64(2) {
		is(t, "Snap", v.Snap(guid(1, 1+n)), api.OK)
	}
	refuses(t, d, v, snap(1, 3), api.ErrArg)
	unopened(t, "no text, and no more sectors", formatted(t, 146, of("x")), api.ErrArg)
	d = disk.New(145, 145)
	laySectors(t, d, 0, "\x01\x01\x00"+of("\x00")[3:])
	unopened(t, "no sector at Home", d, api.ErrArg)
}

// P10.1: what Recover answers.
func TestOpenRecovers(t *testing.T) {
	d, v, _ := made(t, 300, 2, write(0, "a"))
	d.Arm(6) // three sectors of a record, and the head, are flushed
	is(t, "Write", v.Write(0, of("b")), api.ErrOff)
	d.Wake([]bool{true})
	full, off, spoilt := d.Copy(), d.Copy(), d.Copy()
	full.SetRoom(0)
	unopened(t, "no room", full, api.ErrFull)
	full.SetRoom(300)
	shows(t, "room", opened(t, full), "b ")
	off.Arm(2)
	unopened(t, "no power", off, api.ErrOff)
	off.Wake(nil)
	shows(t, "power", opened(t, off), "b ")
	laySectors(t, spoilt, 1, of("x"))
	laySectors(t, spoilt, 73, of("x"))
	unopened(t, "no record", spoilt, api.ErrBroken)
	shows(t, "a record", opened(t, d), "b ")
}

// P10.2 to P10.4: a table that is shorter than what lay there ahead of it, and one that is longer.
func TestLongerAndShorterTables(t *testing.T) {
	d, v, m := made(t, 500, 8)
	for n := range 20 {
		does(t, d, v, m, write(n%8, "a"), snap(1<<40, uint64(1+n)))
	}
	if n := len(textsSectors(t, m.table)); n < 15 {
		t.Errorf("a long table takes %d sectors", n)
	}
	does(t, d, v, m, rollback(0))
	if n := len(textsSectors(t, m.table)); n != 1 {
		t.Errorf("a short table takes %d sectors", n)
	}
	does(t, d, v, m, write(0, "b"), snap(1, 1), snap(1, 2), write(1, "c"), snap(1, 3), snap(1, 4))
}

// P10.1: the largest table there is, and changes of it.
func TestLargestTable(t *testing.T) {
	const most = math.MaxUint64
	image := []int{1016, 1017, 1018, 1019, 1020, 1021, 1022, 1023}
	m := api.Meta{Live: image, Token: api.Token{Base: guid(most, most-1), Target: guid(most, most), Next: 7, All: 8, Image: image}}
	for n := range uint64(20) {
		m.Snaps = append(m.Snaps, api.Snap{Guid: guid(most, most-20+n), Image: image, Hidden: true})
	}
	l := textsSectors(t, m)
	if len(l) != 31 {
		t.Errorf("it takes %d sectors", len(l))
	}
	d := formatted(t, 1024, l...)
	v := opened(t, d)
	has(t, "the largest table", v, m.Token)
	lists(t, "the largest table", v, opened(t, d).List()...)
	if len(v.List()) != 20 || v.Blocks() != 8 {
		t.Errorf("%v, %d blocks", v.List(), v.Blocks())
	}
	refuses(t, d, v, stage(guid(most, most-1), guid(most, most), 8, 8, "0x"), api.ErrLong)
	is(t, "Stage", stage(guid(most, most-1), guid(most, most), 7, 8, "0a 1b 2c 3d 4e 5f 6g 7h").do(v), api.OK)
	is(t, "Write", v.Write(3, of("x")), api.OK)
	m.Token.Image, m.Live = []int{193, 194, 195, 196, 197, 198, 199, 200}, []int{1016, 1017, 1018, 201, 1020, 1021, 1022, 1023}
	has(t, "other places", opened(t, d), m.Token)
	shows(t, "other places", opened(t, d), "   x    ")
	is(t, "Rollback", v.Rollback(0), api.OK)
	shows(t, "Rollback", opened(t, d), "        ")
}

// P10.3: each block, and those that there are not; a block's bytes, and more, and less.
func TestWriteArguments(t *testing.T) {
	for blocks := 1; blocks <= 8; blocks++ {
		d, v, m := made(t, 300, blocks)
		for block := range blocks {
			does(t, d, v, m, write(block, "x"))
		}
		for _, block := range []int{math.MinInt, -256, -1, blocks, blocks + 1, 8, 9, 256, 1 << 32, 1<<32 + 1, math.MaxInt} {
			refuses(t, d, v, write(block, "z"), api.ErrArg)
			refuses(t, d, v, write(block, "\x00"), api.ErrArg)
		}
	}
	d, v, m := made(t, 300, 3)
	for _, n := range []int{0, 1, 31, 33, 64, 1 << 16} {
		for _, letter := range []string{"x", "\x00"} {
			for _, block := range []int{-1, 0, 2, 3} {
				refuses(t, d, v, deed{name: "Write", block: block, data: strings.Repeat(letter, n)}, api.ErrArg)
			}
		}
	}
	refuses(t, d, v, deed{name: "Write", data: strings.Repeat("ä", 32)}, api.ErrArg)
	for block, data := range []string{"0123456789abcdefghijklmnopqrstuv", of("\xff"), strings.Repeat("ä", 16)} {
		does(t, d, v, m, deed{name: "Write", block: block, data: data})
	}
}

// P10.3: a block that is zeros but for one byte lies in a sector; one that is zeros lies in none.
func TestZeros(t *testing.T) {
	d, v, m := made(t, 300, 2)
	used := d.Used()
	does(t, d, v, m, write(0, "\x00"), write(1, "\x00"))
	if d.Used() != used {
		t.Errorf("zeros took %d sectors", d.Used()-used)
	}
	for i := range 32 {
		data := of("\x00")[:i] + "\x01" + of("\x00")[i+1:]
		does(t, d, v, m, deed{name: "Write", block: 1, data: data})
		if on := tableOn(t, d); on.Live[1] == 0 {
			t.Errorf("a 1 at %d lies in no sector", i)
		}
	}
	does(t, d, v, m, deed{name: "Write", block: 1, data: strings.Repeat("\x01", 31) + "\x00"}, snap(1, 1), write(1, "\x00"), snap(1, 2))
	reads(t, "zeros", v, guid(1, 2), "  ")
	differs(t, "zeros", v, 1, "1")
	does(t, d, v, m, write(0, "a"), snap(1, 3), stage(guid(1, 3), guid(1, 4), 1, 2, "0"), stage(guid(1, 3), guid(1, 4), 2, 2, "1"))
	reads(t, "staged zeros", v, guid(1, 4), "  ")
	differs(t, "staged zeros", v, 3, "0")
	if on := tableOn(t, d); !slices.Equal(on.Live, []int{0, 0}) {
		t.Errorf("zeros lie in %v", on.Live)
	}
}

// P10.3: the places that changes take: the lowest that no image holds as it is now.
func TestPlaces(t *testing.T) {
	d, v, m := made(t, 300, 3)
	one, two := guid(1, 1), guid(1, 2)
	for _, x := range []struct {
		deed deed
		live []int
		part []int
	}{
		{write(1, "a"), []int{0, 193, 0}, nil},
		{write(0, "b"), []int{194, 193, 0}, nil},
		{write(1, "c"), []int{194, 195, 0}, nil}, // 193 is held till the change is done
		{write(2, "d"), []int{194, 195, 193}, nil},
		{write(0, "b"), []int{196, 195, 193}, nil}, // the same data, but written
		{snap(1, 1), []int{196, 195, 193}, nil},
		{write(0, "e"), []int{194, 195, 193}, nil},
		{write(0, "f"), []int{197, 195, 193}, nil},
		{write(0, "\x00"), []int{0, 195, 193}, nil},
		{stage(one, two, 1, 3, "0g 1 2h"), []int{0, 195, 193}, []int{194, 0, 197}},
		{write(1, "i"), []int{0, 198, 193}, []int{194, 0, 197}},
		{stage(one, two, 2, 3, "2j"), []int{0, 198, 193}, []int{194, 0, 199}},
		{stage(one, guid(1, 3), 1, 3, "0k"), []int{0, 198, 193}, []int{197, 195, 193}}, // of another one: from the snapshot on; what it takes the place of is held till then
		{stage(one, guid(1, 3), 1, 3, ""), []int{0, 198, 193}, []int{197, 195, 193}},
		{stage(one, two, 3, 3, "1l"), []int{196, 194, 193}, nil},
		{write(2, "m"), []int{196, 194, 197}, nil},
		{rollback(2), []int{196, 194, 193}, nil},
		{rollback(1), []int{196, 195, 193}, nil},
		{write(0, "n"), []int{194, 195, 193}, nil},
		{hide(1, 1), []int{194, 195, 193}, nil},
		{write(2, "o"), []int{194, 195, 197}, nil}, // what is hidden is held
		{rollback(0), []int{0, 0, 0}, nil},
		{write(2, "p"), []int{0, 0, 193}, nil},
	} {
		does(t, d, v, m, x.deed)
		on := tableOn(t, d)
		if !slices.Equal(on.Live, x.live) || !slices.Equal(on.Token.Image, x.part) {
			t.Errorf("%v: the live volume lies in %v, the token in %v, not %v, %v", x.deed, on.Live, on.Token.Image, x.live, x.part)
		}
	}
}

// P10.3, P10.6: as many sectors as there are, and one more block.
func TestFull(t *testing.T) {
	d, v, m := made(t, 196, 4, write(0, "a"), write(1, "b"), snap(1, 1), write(0, "c"))
	one, two := guid(1, 1), guid(1, 2)
	refuses(t, d, v, write(0, "d"), api.ErrFull)
	refuses(t, d, v, write(2, "d"), api.ErrFull)
	refuses(t, d, v, stage(one, two, 1, 2, "0d"), api.ErrFull)
	refuses(t, d, v, stage(one, two, 2, 2, "0 3d"), api.ErrFull)
	does(t, d, v, m, write(0, "\x00"))
	refuses(t, d, v, stage(one, two, 1, 2, "0d 1e"), api.ErrFull)
	refuses(t, d, v, stage(one, two, 2, 2, "1d 2 3e"), api.ErrFull)
	does(t, d, v, m, stage(one, two, 1, 2, "0d 1 2"))
	refuses(t, d, v, write(0, "d"), api.ErrFull)
	refuses(t, d, v, stage(one, two, 1, 2, "0d"), api.ErrFull) // what it would take the place of is held
	does(t, d, v, m, forget(), write(3, "e"), hide(1, 1))
	refuses(t, d, v, write(3, "f"), api.ErrFull)
	does(t, d, v, m, rollback(1), write(3, "f"))
	refuses(t, d, v, write(3, "g"), api.ErrFull)
	does(t, d, v, m, rollback(0), write(3, "g"), write(2, "h"), write(1, "i"))
	refuses(t, d, v, write(0, "j"), api.ErrFull)
	does(t, d, v, m, snap(2, 1), write(1, "\x00"), write(2, "\x00"), write(3, "\x00"))
	refuses(t, d, v, write(0, "j"), api.ErrFull)
}

// P10.3, P10.6: a disk that has free sectors, but no room for them, or for the record.
func TestNoRoom(t *testing.T) {
	d, v, m := made(t, 300, 2, write(0, "a"), write(0, "b"), snap(1, 1))
	one, two := guid(1, 1), guid(1, 2)
	d.SetRoom(d.Used())
	does(t, d, v, m, write(0, "c")) // 193 has been written by now
	refuses(t, d, v, write(1, "d"), api.ErrFull)
	refuses(t, d, v, stage(one, two, 1, 2, "0d"), api.ErrFull)
	refuses(t, d, v, stage(one, two, 2, 2, "1d"), api.ErrFull)
	d.SetRoom(0)
	does(t, d, v, m, snap(1, 2), hide(1, 1), write(0, "\x00"), rollback(1))
	d.SetRoom(300)
	does(t, d, v, m, write(1, "d"))

	// A table that takes one sector more, and a record that does.
	for n := range 300 {
		d, v, m := made(t, 300, 8)
		does(t, d, v, m, write(0, "a"), snap(1<<40, 1), snap(1<<40, 2))
		d.SetRoom(n)
		x := stage(guid(1<<40, 2), guid(1<<40, 3), 1, 8, "0a 1b 2c 3d 4e 5f 6g 7h")
		next := m.copy()
		writes, _ := next.do(x)
		if e := journal.Commit(d.Copy(), commits(t, d, next.table, writes)); e != api.OK {
			refuses(t, d, v, x, e)
			is(t, "too little room", e, api.ErrFull)
			continue
		}
		does(t, d, v, m, x)
		if n < 100 {
			return
		}
		break
	}
	t.Error("there is never room enough")
}

// P10.3, P10.4, P10.6: a disk that is no journal any more: nothing is changed, and the vault is not lost.
func TestNoHead(t *testing.T) {
	d, v, m := made(t, 300, 2, write(0, "a"), snap(1, 1), stage(guid(1, 1), guid(1, 2), 1, 2, "0b"))
	head, _ := d.Read(0)
	laySectors(t, d, 0, of("\x00"))
	for _, x := range []deed{write(0, "c"), write(0, "\x00"), snap(1, 2), rollback(0), rollback(1), hide(1, 1), stage(guid(1, 1), guid(1, 2), 2, 2, "1c"), stage(guid(1, 1), guid(1, 3), 1, 2, ""), forget()} {
		refuses(t, d, v, x, api.ErrBroken)
	}
	// Where nothing is another one no head is asked for.
	is(t, "Write of zeros on zeros", v.Write(1, of("\x00")), api.OK)
	laySectors(t, d, 0, head)
	alike(t, "with a head again", d, v, m)
	does(t, d, v, m, write(0, "c"))
}

// P10.3: which guids are above the last one.
func TestGuids(t *testing.T) {
	const most = math.MaxUint64
	for _, x := range []struct {
		last, g api.Guid
		above   bool
	}{
		{none, none, false}, {none, guid(0, 1), true}, {none, guid(1, 0), true}, {none, guid(most, most), true},
		{guid(1, 1), none, false}, {guid(1, 1), guid(1, 1), false}, {guid(1, 1), guid(1, 0), false}, {guid(1, 1), guid(0, most), false},
		{guid(1, 1), guid(1, 2), true}, {guid(1, 9), guid(1, 10), true}, {guid(1, 10), guid(1, 9), false}, {guid(1, 5), guid(2, 0), true}, {guid(1, 5), guid(2, 1), true},
		{guid(2, 0), guid(1, most), false}, {guid(1<<63-1, most), guid(1<<63, 0), true}, {guid(1<<63, 0), guid(1<<63-1, most), false},
		{guid(1, 1<<63-1), guid(1, 1<<63), true}, {guid(1, 1<<63), guid(1, 1<<63-1), false}, {guid(1<<32, 1), guid(1, 2), false},
		{guid(most, most), guid(most, most), false}, {guid(most, most), none, false}, {guid(most, most-1), guid(most, most), true},
	} {
		d, v, m := made(t, 250, 2)
		if x.last != none {
			does(t, d, v, m, snap(x.last.Epoch, x.last.Count))
		}
		deeds := []deed{snap(x.g.Epoch, x.g.Count), stage(x.last, x.g, 0, 0, ""), stage(x.last, x.g, 2, 2, "0a"), stage(x.last, x.g, 1, 2, "0a")}
		for _, y := range deeds {
			d, v, m := d.Copy(), opened(t, d.Copy()), m.copy()
			v.disk = d
			if x.above {
				does(t, d, v, m, y)
			} else {
				refuses(t, d, v, y, api.ErrArg)
			}
		}
	}
}

// P10.3, P10.4: twenty snapshots, and one more.
func TestTwentySnapshots(t *testing.T) {
	d, v, m := made(t, 300, 2)
	for n := range uint64(20) {
		if n%2 == 0 {
			does(t, d, v, m, write(0, string(rune('a'+n))), snap(1, 1+n))
			continue
		}
		does(t, d, v, m, stage(guid(1, n), guid(1, 1+n), 2, 2, "1"+string(rune('a'+n))))
	}
	last := guid(1, 20)
	full := func() {
		t.Helper()
		refuses(t, d, v, snap(1, 21), api.ErrLong)
		refuses(t, d, v, stage(last, guid(1, 21), 0, 0, ""), api.ErrLong)
		refuses(t, d, v, stage(last, guid(1, 21), 1, 1, ""), api.ErrLong)
		refuses(t, d, v, stage(last, guid(1, 21), 2, 2, "0a 1b"), api.ErrLong)
		// What may not be comes ahead of what is too much.
		refuses(t, d, v, snap(1, 20), api.ErrArg)
		refuses(t, d, v, snap(0, 0), api.ErrArg)
		refuses(t, d, v, stage(last, last, 2, 2, ""), api.ErrArg)
		refuses(t, d, v, stage(none, guid(1, 21), 2, 2, ""), api.ErrArg)
		refuses(t, d, v, stage(last, guid(1, 21), 3, 3, ""), api.ErrArg)
		refuses(t, d, v, stage(last, guid(1, 21), 0, 1, ""), api.ErrArg)
		refuses(t, d, v, stage(last, guid(1, 21), 2, 2, "1a 0b"), api.ErrArg)
	}
	full()
	does(t, d, v, m, write(1, "x"), hide(1, 3), hide(1, 20))
	full()
	// There may be a token, that asks for more than may ever come.
	does(t, d, v, m, stage(last, guid(1, 21), 1, 2, "0y"))
	full()
	does(t, d, v, m, forget(), rollback(20), rollback(19), snap(1, 20))
	full()
}

// P10.4, P10.6: too many snapshots come ahead of too few sectors.
func TestLongAheadOfFull(t *testing.T) {
	d, v, m := made(t, 193, 1)
	for n := range uint64(20) {
		does(t, d, v, m, snap(1, 1+n))
	}
	refuses(t, d, v, stage(guid(1, 20), guid(1, 21), 1, 1, "0a"), api.ErrLong)
	refuses(t, d, v, stage(guid(1, 20), guid(1, 21), 1, 1, "1a"), api.ErrArg)
	refuses(t, d, v, write(1, "a"), api.ErrArg)
	refuses(t, d, v, write(0, "a"), api.ErrFull)
}

// P10.3: Rollback to none, some, all of the snapshots, and what is none of these.
func TestRollback(t *testing.T) {
	for n := range 4 {
		d, v, m := made(t, 300, 3, write(0, "a"), snap(1, 1), write(1, "b"), snap(1, 2), write(0, "\x00"), write(2, "c"), snap(2, 1), write(0, "d"), stage(guid(2, 1), guid(2, 2), 2, 3, "1e"))
		for _, bad := range []int{math.MinInt, -1, 4, 5, 256, 1 << 32, math.MaxInt} {
			refuses(t, d, v, rollback(bad), api.ErrArg)
		}
		does(t, d, v, m, rollback(n))
		lists(t, "Rollback", v, []api.Guid{guid(1, 1), guid(1, 2), guid(2, 1)}[:n]...)
		shows(t, "Rollback", v, []string{"   ", "a  ", "ab ", " bc"}[n])
		has(t, "Rollback", v, api.Token{})
		noChanges(t, "Rollback", v, n)
		for bad := n + 1; bad < 5; bad++ {
			refuses(t, d, v, rollback(bad), api.ErrArg)
		}
		does(t, d, v, m, rollback(n), snap(3, 1))
	}
}

// P10.3: hidden snapshots: the last one's volume is the base all the same.
func TestHide(t *testing.T) {
	one, two := guid(1, 1), guid(1, 2)
	d, v, m := made(t, 300, 2)
	refuses(t, d, v, hide(0, 0), api.ErrNone)
	refuses(t, d, v, hide(1, 1), api.ErrNone)
	does(t, d, v, m, write(0, "a"), snap(1, 1), write(1, "b"), snap(1, 2), stage(two, guid(1, 3), 1, 2, "0c"), hide(1, 2))
	if k := v.Token(); k.Next != 1 {
		t.Errorf("Hide made the token %+v", k)
	}
	refuses(t, d, v, hide(1, 2), api.ErrGone)
	refuses(t, d, v, hide(1, 3), api.ErrNone)
	refuses(t, d, v, hide(2, 1), api.ErrNone)
	refuses(t, d, v, hide(1, 0), api.ErrNone)
	unread(t, "Hide", v, two, api.ErrGone)
	unread(t, "Hide", v, guid(1, 3), api.ErrNone)
	reads(t, "Hide", v, one, "a ")
	lists(t, "Hide", v, one, two)
	differs(t, "Hide", v, 1, "1b")
	shows(t, "Hide", v, "ab")
	does(t, d, v, m, write(0, "d"), stage(two, guid(1, 3), 2, 2, ""))
	reads(t, "staged behind a hidden one", v, guid(1, 3), "cb")
	differs(t, "staged behind a hidden one", v, 2, "0c")
	does(t, d, v, m, rollback(2))
	shows(t, "Rollback", v, "ab")
	does(t, d, v, m, hide(1, 1), rollback(1))
	unread(t, "Rollback", v, one, api.ErrGone)
	unread(t, "Rollback", v, two, api.ErrNone)
}

// P10.3: changes are of blocks that are others, not of blocks that were written.
func TestChanges(t *testing.T) {
	d, v, m := made(t, 300, 3, write(0, "a"), write(1, "b"), snap(1, 1), write(0, "a"), write(1, "c"), write(2, "d"), snap(1, 2), write(1, "b"), write(2, "\x00"), snap(1, 3), snap(1, 4))
	differs(t, "the first one", v, 0, "0a 1b")
	differs(t, "the second one", v, 1, "1c 2d")
	differs(t, "the third one", v, 2, "1b 2")
	differs(t, "the fourth one", v, 3, "")
	for _, n := range []int{math.MinInt, -1, 4, 5, 256, 1 << 32, math.MaxInt} {
		noChanges(t, "none", v, n)
	}
	does(t, d, v, m, stage(guid(1, 4), guid(1, 5), 3, 3, "0a 1e 2"))
	differs(t, "the staged one", v, 4, "1e")
}

// P10.4: each field of a token that may be, in its turn another one.
func TestStageArguments(t *testing.T) {
	last, next := guid(2, 3), guid(2, 4)
	d, v, m := made(t, 195, 4, write(0, "a"), snap(1, 1), write(1, "b"), snap(2, 3))
	refuses(t, d, v, stage(last, next, 1, 2, "0x"), api.ErrFull) // what comes behind all that is refused here
	for _, base := range []api.Guid{none, guid(1, 1), guid(2, 2), guid(2, 4), guid(3, 3), guid(1, 3), guid(2, 0), guid(0, 3)} {
		refuses(t, d, v, stage(base, next, 1, 2, "0x"), api.ErrArg)
		refuses(t, d, v, stage(base, guid(9, 9), 2, 2, "0x"), api.ErrArg)
	}
	for _, target := range []api.Guid{none, guid(1, 1), guid(1, 9), guid(2, 2), last, guid(2, 0), guid(0, 9)} {
		refuses(t, d, v, stage(last, target, 1, 2, "0x"), api.ErrArg)
		refuses(t, d, v, stage(last, target, 2, 2, "0x"), api.ErrArg)
	}
	for _, x := range [][2]int{{0, -1}, {-1, -1}, {0, 1}, {0, 4}, {1, 0}, {-1, 0}, {2, 1}, {-1, 4}, {5, 4}, {math.MinInt, 4}, {math.MaxInt, 4}, {1, 5}, {5, 5}, {4, 5}, {0, 5}, {1, 8}, {8, 8}, {1, 1 << 32}, {1, math.MaxInt}, {math.MaxInt, math.MaxInt}, {0, math.MinInt}, {math.MinInt, math.MinInt}, {1, -4}, {-4, -4}, {-1, 1}, {1 << 32, 1 << 32}, {1<<32 + 1, 4}} {
		refuses(t, d, v, stage(last, next, x[0], x[1], "0x"), api.ErrArg)
		refuses(t, d, v, stage(last, next, x[0], x[1], ""), api.ErrArg)
	}
	alike(t, "at last", d, v, m)
}

// P10.4: Next and All as they may be.
func TestStageNumbers(t *testing.T) {
	last, next := guid(2, 3), guid(2, 4)
	d, _, m := made(t, 300, 4, write(0, "a"), snap(1, 1), write(1, "b"), snap(2, 3))
	for all := 0; all <= 4; all++ {
		for n := min(all, 1); n <= all; n++ {
			for _, words := range []string{"", "0x", "3y", "0x 3", "0 1 2 3", "0x 1y 2z 3!"} {
				d, m := d.Copy(), m.copy()
				does(t, d, opened(t, d), m, stage(last, next, n, all, words))
			}
		}
	}
}

// P10.4: changes that do not rise, that are of no block, and that are too short, or too long.
func TestStageChanges(t *testing.T) {
	one := guid(1, 1)
	d, v, m := made(t, 300, 3)
	x := func(block, n int) api.Change {
		return api.Change{Block: block, Data: strings.Repeat("x", n)}
	}
	for _, l := range [][]api.Change{
		{x(-1, 32)}, {x(3, 32)}, {x(math.MinInt, 32)}, {x(math.MaxInt, 32)}, {x(1<<32, 32)}, {x(8, 32)},
		{x(1, 32), x(1, 32)}, {x(1, 32), x(0, 32)}, {x(2, 32), x(0, 32), x(1, 32)}, {x(0, 32), x(2, 32), x(1, 32)}, {x(0, 32), x(1, 32), x(2, 32), x(3, 32)}, {x(-1, 32), x(0, 32)}, {x(0, 32), x(1, 32), x(2, 32), x(2, 32)},
		{x(0, 0)}, {x(0, 31)}, {x(0, 33)}, {x(0, 64)}, {x(0, 32), x(1, 31)}, {x(0, 31), x(1, 32)}, {x(0, 32), x(1, 32), x(2, 33)}, {{Block: 1}}, {{Block: 1, Data: strings.Repeat("\x00", 31)}}, {{Block: 1, Data: strings.Repeat("\x00", 33)}}, {{Block: 3, Data: of("\x00")}},
	} {
		for _, k := range []api.Token{{Target: one, Next: 1, All: 2}, {Target: one, Next: 2, All: 2}, {Target: one}} {
			refuses(t, d, v, deed{name: "Stage", token: k, changes: l}, api.ErrArg)
		}
	}
	// How many they are counts for nothing.
	does(t, d, v, m, stage(none, one, 1, 2, "0a 1b 2c"), stage(none, one, 2, 2, ""))
	reads(t, "more than Next", v, one, "abc")
	does(t, d, v, m, stage(one, guid(1, 2), 0, 0, "1d"))
	reads(t, "more than none", v, guid(1, 2), "adc")
}

// P10.4: from nothing, onto the same token, onto another one; and what t's Image says counts for nothing.
func TestStageOnto(t *testing.T) {
	d, v, m := made(t, 300, 4, write(3, "w"), snap(1, 1), write(0, "v"))
	one, two := guid(1, 1), guid(1, 2)
	seen := func(what string) {
		t.Helper()
		lists(t, what, v, one)
		shows(t, what, v, "v  w")
		unread(t, what, v, two, api.ErrNone)
		noChanges(t, what, v, 1)
		differs(t, what, v, 0, "3w")
	}
	does(t, d, v, m, stage(one, two, 1, 4, "0a"))
	seen("the first part")
	has(t, "the first part", v, api.Token{Base: one, Target: two, Next: 1, All: 4, Image: []int{195, 0, 0, 193}})
	does(t, d, v, m, stage(one, two, 2, 4, "1b"))
	seen("the second part")
	has(t, "the second part", v, api.Token{Base: one, Target: two, Next: 2, All: 4, Image: []int{195, 196, 0, 193}})
	// Less than there was is the same token; and nothing more is.
	does(t, d, v, m, stage(one, two, 1, 4, ""))
	has(t, "less", v, api.Token{Base: one, Target: two, Next: 1, All: 4, Image: []int{195, 196, 0, 193}})
	for _, other := range []deed{stage(one, two, 1, 3, "2c"), stage(one, guid(1, 3), 1, 4, "2c"), stage(one, guid(2, 2), 2, 4, "2c")} {
		d, m := d.Copy(), m.copy()
		v := opened(t, d)
		does(t, d, v, m, other)
		has(t, other.String(), v, api.Token{Base: one, Target: other.token.Target, Next: other.token.Next, All: other.token.All, Image: []int{0, 0, 197, 193}})
		does(t, d, v, m, stage(one, two, 4, 4, "2d"))
		reads(t, "the first one, begun anew", v, two, "  dw")
	}
	x := stage(one, two, 3, 4, "3")
	x.token.Image = []int{7, 7, 7, 7, 7, 7, 7, 7, 7}
	does(t, d, v, m, x)
	seen("the third part")
	x = stage(one, two, 4, 4, "2c")
	x.token.Image = []int{250, 251, 252, 253}
	does(t, d, v, m, x)
	reads(t, "the last part", v, two, "abc ")
	shows(t, "the last part", v, "abc ")
	lists(t, "the last part", v, one, two)
	differs(t, "the last part", v, 1, "0a 1b 2c 3")
	has(t, "the last part", v, api.Token{})
}

// P10.4: all at once, and of no changes.
func TestStageAtOnce(t *testing.T) {
	d, v, m := made(t, 300, 8, stage(none, guid(1, 1), 8, 8, "0a 1b 2c 3d 4e 5f 6g 7h"))
	reads(t, "eight changes", v, guid(1, 1), "abcdefgh")
	does(t, d, v, m, write(0, "x"), stage(guid(1, 1), guid(1, 2), 0, 0, ""))
	reads(t, "no changes", v, guid(1, 2), "abcdefgh")
	shows(t, "no changes", v, "abcdefgh")
	differs(t, "no changes", v, 1, "")
	does(t, d, v, m, stage(guid(1, 2), guid(1, 3), 1, 8, "0x"), stage(guid(1, 2), guid(1, 3), 0, 0, ""))
	reads(t, "no changes, behind a token of eight", v, guid(1, 3), "abcdefgh")
}

// P10.3, P10.4: what leaves the token, and what makes it none.
func TestToken(t *testing.T) {
	k := stage(guid(1, 1), guid(1, 2), 1, 2, "1b")
	for _, x := range []struct {
		deed  deed
		stays bool
	}{
		{write(0, "c"), true}, {write(0, "\x00"), true}, {hide(1, 1), true},
		{snap(1, 2), false}, {snap(9, 9), false}, {rollback(0), false}, {rollback(1), false}, {forget(), false}, {stage(guid(1, 1), guid(5, 5), 0, 0, ""), false}, {stage(guid(1, 1), guid(1, 2), 2, 2, ""), false},
	} {
		d, v, m := made(t, 250, 2, write(0, "a"), snap(1, 1), k, x.deed)
		if is := v.Token().Target != none; is != x.stays {
			t.Errorf("%v: the token is %+v", x.deed, v.Token())
		}
		// A token that stays goes on, also in a vault that is opened anew.
		if x.stays {
			v = opened(t, d)
			does(t, d, v, m, stage(guid(1, 1), guid(1, 2), 2, 2, ""))
			reads(t, "the rest", v, guid(1, 2), "ab")
		}
	}
}

// P10.4: Forget with a token, and without one: then nothing is done.
func TestForget(t *testing.T) {
	d, v, m := made(t, 196, 2, write(0, "a"), snap(1, 1))
	nothing := func(what string) {
		t.Helper()
		d.Arm(1)
		is(t, what, v.Forget(), api.OK)
		d.Arm(0)
		alike(t, what, d, v, m)
	}
	nothing("Forget of no token")
	x := stage(guid(1, 1), guid(1, 2), 1, 2, "0b 1c")
	does(t, d, v, m, x)
	refuses(t, d, v, write(0, "d"), api.ErrFull)
	does(t, d, v, m, forget(), write(0, "d"), write(0, "\x00"))
	nothing("Forget of a token that is forgotten")
	does(t, d, v, m, x, stage(guid(1, 1), guid(1, 2), 2, 2, ""))
	nothing("Forget behind a snapshot")
}

// calls are those that answer an error, each with what may not be, so that other errors come behind its first one.
func calls() map[string]func(v *Vault) (any, api.Errno) {
	bad := func(x deed) func(v *Vault) (any, api.Errno) {
		return func(v *Vault) (any, api.Errno) { return nil, x.do(v) }
	}
	return map[string]func(v *Vault) (any, api.Errno){
		"Write": bad(write(0, "x")), "Write of no block": bad(write(9, "x")), "Write of zeros": bad(write(0, "\x00")),
		"Snap": bad(snap(9, 9)), "Snap of no guid": bad(snap(0, 0)),
		"Rollback": bad(rollback(0)), "Rollback of what is not there": bad(rollback(-1)),
		"Hide": bad(hide(1, 1)), "Hide of what is not there": bad(hide(7, 7)),
		"Stage": bad(stage(guid(1, 1), guid(1, 2), 1, 2, "0y")), "Stage of what may not be": bad(stage(none, none, 3, 2, "9y")), "Stage of all": bad(stage(guid(1, 1), guid(1, 2), 2, 2, "0y")),
		"Forget":                  bad(forget()),
		"Live":                    func(v *Vault) (any, api.Errno) { l, e := v.Live(); return listOf(l), e },
		"Read":                    func(v *Vault) (any, api.Errno) { l, e := v.Read(guid(1, 1)); return listOf(l), e },
		"Read of what is none":    func(v *Vault) (any, api.Errno) { l, e := v.Read(none); return listOf(l), e },
		"Changes":                 func(v *Vault) (any, api.Errno) { l, e := v.Changes(0); return listOf(l), e },
		"Changes of what is none": func(v *Vault) (any, api.Errno) { l, e := v.Changes(-1); return listOf(l), e },
	}
}

// listOf answers nothing for a list without elements.
func listOf[T any](l []T) any {
	if len(l) == 0 {
		return nil
	}
	return l
}

// R3: a vault that is nil, and one that Open did not make.
func TestNoVault(t *testing.T) {
	for what, v := range map[string]*Vault{"nil": nil, "another one": {}} {
		for name, call := range calls() {
			if l, e := call(v); e != api.ErrNil || l != nil {
				t.Errorf("%s: %s: %v, %d, not ErrNil", what, name, l, e)
			}
		}
		if v.Blocks() != 0 || len(v.List()) != 0 {
			t.Errorf("%s: %d blocks, %v", what, v.Blocks(), v.List())
		}
		has(t, what, v, api.Token{})
	}
}

// lost asks that each call of the vault answers ErrOff, and that it still tells what it knows.
func lost(t *testing.T, what string, v *Vault, m *model) {
	t.Helper()
	for name, call := range calls() {
		if l, e := call(v); e != api.ErrOff || l != nil {
			t.Errorf("%s: %s: %v, %d, not ErrOff", what, name, l, e)
		}
	}
	if v.Blocks() != len(m.table.Live) {
		t.Errorf("%s: %d blocks", what, v.Blocks())
	}
	lists(t, what, v, m.chain.List()...)
	has(t, what, v, m.table.Token)
}

// P10.3: a vault is lost by each call that meets a disk without power, and stays so with power; Open makes another one.
func TestLost(t *testing.T) {
	build := []deed{write(0, "a"), snap(1, 1), write(1, "b"), stage(guid(1, 1), guid(1, 2), 1, 2, "0c")}
	for name, call := range calls() {
		d, v, m := made(t, 250, 2, build...)
		d.Off()
		if l, e := call(v); e != api.ErrOff || l != nil {
			t.Errorf("%s without power: %v, %d, not ErrOff", name, l, e)
		}
		d.Wake(nil)
		had := sectorsOf(d)
		lost(t, name, v, m)
		if sectorsOf(d) != had {
			t.Errorf("%s: a vault that is lost changed its disk", name)
		}
		v = opened(t, d)
		alike(t, name+" and Open", d, v, m)
		does(t, d, v, m, write(0, "d"))
	}
}

// P10.2: what answers no error asks for no power, and loses no vault; one whose disk was without power, unasked, is none that is lost.
func TestNotLost(t *testing.T) {
	d, v, m := made(t, 250, 2, write(0, "a"), snap(1, 1), stage(guid(1, 1), guid(1, 2), 1, 2, "0c"))
	d.Off()
	if v.Blocks() != 2 {
		t.Errorf("%d blocks", v.Blocks())
	}
	lists(t, "without power", v, guid(1, 1))
	has(t, "without power", v, m.table.Token)
	d.Wake(nil)
	alike(t, "with power again", d, v, m)
	// Another error than ErrOff loses nothing either.
	refuses(t, d, v, write(2, "a"), api.ErrArg)
	unread(t, "what is none", v, none, api.ErrNone)
	does(t, d, v, m, write(0, "b"))
}

// P10.3, P10.4: a vault is lost by a change in which the power goes.
func TestLostInAChange(t *testing.T) {
	build := []deed{write(0, "a"), snap(1, 1), stage(guid(1, 1), guid(1, 2), 1, 2, "0c")}
	for _, x := range []deed{write(0, "x"), write(0, "\x00"), snap(1, 2), rollback(1), hide(1, 1), stage(guid(1, 1), guid(1, 2), 2, 2, "1d"), stage(guid(1, 1), guid(1, 2), 1, 2, "1d"), forget()} {
		for fuse := 1; ; fuse++ {
			d, v, m := made(t, 250, 2, build...)
			d.Arm(fuse)
			e := x.do(v)
			if d.On() {
				is(t, x.String(), e, api.OK)
				break
			}
			is(t, x.String(), e, api.ErrOff)
			// It is the change that loses it, not what is asked of it behind that.
			d.Wake(nil)
			lost(t, x.String(), v, m)
		}
	}
}

// R5: nothing that is handed in is kept, nothing that is answered is shared.
func TestNothingIsShared(t *testing.T) {
	d, v, m := made(t, 300, 2, write(0, "a"), snap(1, 1), snap(1, 2), write(1, "b"))
	x := stage(guid(1, 2), guid(1, 3), 1, 2, "0c 1d")
	x.token.Image = []int{0, 0}
	handed := x.token
	does(t, d, v, m, x)
	x.changes[0] = api.Change{Block: 1, Data: of("!")}
	handed.Image[0] = 299
	alike(t, "what was handed in", d, v, m)
	spoil := func() {
		t.Helper()
		l, _ := v.Live()
		l[0] = "!"
		l, _ = v.Read(guid(1, 1))
		l[0] = "!"
		changes, _ := v.Changes(0)
		changes[0] = api.Change{}
		v.List()[0] = guid(9, 9)
		if k := v.Token(); len(k.Image) > 0 {
			k.Image[0] = 299
		}
		alike(t, "what was answered", d, v, m)
	}
	spoil()
	does(t, d, v, m, stage(guid(1, 2), guid(1, 3), 1, 2, "1e"))
	spoil()
	does(t, d, v, m, stage(guid(1, 2), guid(1, 3), 2, 2, ""), write(0, "f"), hide(1, 2))
	spoil()
	does(t, d, v, m, rollback(1), write(0, "g"), snap(1, 2), rollback(1))
	spoil()
	does(t, d, v, m, snap(1, 4), write(0, "h"))
	spoil()
}

// Two vaults of one disk: what is committed is what the disk has not, whoever laid that.
func TestTwoVaultsOfOneDisk(t *testing.T) {
	d, v, _ := made(t, 300, 2, write(0, "a"))
	other := opened(t, d)
	is(t, "Snap", v.Snap(guid(1, 1)), api.OK)
	is(t, "Snap", v.Snap(guid(1<<60, 1)), api.OK)
	is(t, "Write", other.Write(1, of("\x00")), api.OK)
	lists(t, "the other one's", opened(t, d))
	shows(t, "the other one's", opened(t, d), "a ")
	is(t, "Forget of no token", v.Forget(), api.OK)
	lists(t, "behind a Forget of nothing", opened(t, d))
}

// The table's numbers, as they lie on the disk.
func TestTableOnDisk(t *testing.T) {
	d, _, _ := made(t, 300, 2, write(0, "a"), snap(1, 1), hide(1, 1), stage(guid(1, 1), guid(1, 2), 1, 2, "1b"))
	s := ""
	for _, n := range []uint64{2, 193, 0, 1, 1, 1, 1, 193, 0, 1, 1, 1, 1, 2, 1, 2, 193, 194} {
		s = wire.PutNum(s, n)
	}
	for i, data := range packed(t, s) {
		if now, _ := d.Read(145 + i); now != data {
			t.Errorf("the sector %d is %q, not %q", 145+i, now, data)
		}
	}
}

// What README.md says of the package.
func Example() {
	a := strings.Repeat("a", 32)
	zeros := strings.Repeat("\x00", 32)
	one, two := api.Guid{Epoch: 1, Count: 1}, api.Guid{Epoch: 1, Count: 2}
	d := disk.New(250, 250)
	fmt.Println(Format(d, 2))
	v, e := Open(d)
	fmt.Println(e, v.Write(0, a), v.Snap(one), v.Write(0, zeros))
	volume, e := v.Read(one)
	fmt.Printf("%.1q %d\n", volume, e)
	part := api.Token{Base: one, Target: two, Next: 1, All: 2}
	fmt.Println(v.Stage(part, []api.Change{{Block: 0, Data: zeros}}), v.List(), v.Token())
	d.Arm(5)
	part.Next = 2
	fmt.Println(v.Stage(part, []api.Change{{Block: 1, Data: a}}), v.Forget())
	d.Wake(nil)
	fmt.Println(v.Forget())
	v, e = Open(d)
	fmt.Println(e, v.List(), v.Token())
	fmt.Println(v.Stage(part, []api.Change{{Block: 1, Data: a}}), v.List())
	changes, e := v.Changes(1)
	for _, x := range changes {
		fmt.Printf("%d %.1q %d\n", x.Block, x.Data, e)
	}
	fmt.Println(v.Rollback(1), v.List())
	// Output:
	// stemma: 0
	// stemma: 0 stemma: 0 stemma: 0 stemma: 0
	// ["a" "\x00"] 0
	// stemma: 0 [{1 1}] {{1 1} {1 2} 1 2 [0 0]}
	// stemma: 6 stemma: 6
	// stemma: 6
	// stemma: 0 [{1 1}] {{1 1} {1 2} 1 2 [0 0]}
	// stemma: 0 [{1 1} {1 2}]
	// 0 "\x00" 0
	// 1 "a" 0
	// stemma: 0 [{1 1}]
}
