package disk

import (
	"math"
	"slices"
	"strings"
	"testing"
	"unsafe"

	"stemma/api"
)

// zeros is what a sector holds that was not written.
var zeros = of("\x00")

// of answers a sector's bytes, all alike.
func of(letter string) string { return strings.Repeat(letter, 32) }

// made answers a disk, and asks that there is one.
func made(t *testing.T, sectors, room int) *Disk {
	t.Helper()
	d := New(sectors, room)
	if d == nil {
		t.Fatalf("New(%d, %d): none", sectors, room)
	}
	return d
}

// same asks that two answers are alike.
func same[T comparable](t *testing.T, what string, got, want T) {
	t.Helper()
	if got != want {
		t.Errorf("%s: %v, not %v", what, got, want)
	}
}

// reads asks that the sector at holds want.
func reads(t *testing.T, what string, d *Disk, at int, want string) {
	t.Helper()
	if got, e := d.Read(at); got != want || e != api.OK {
		t.Errorf("%s: Read(%d): %q, %d, not %q", what, at, got, e, want)
	}
}

// unread asks that the sector at is not read, for that error.
func unread(t *testing.T, what string, d *Disk, at int, want api.Errno) {
	t.Helper()
	if got, e := d.Read(at); got != "" || e != want {
		t.Errorf("%s: Read(%d): %q, %d, not %d", what, at, got, e, want)
	}
}

// holds asks that the first sectors hold those letters, and that as many have been written as are others than a blank; a blank is zeros.
func holds(t *testing.T, what string, d *Disk, letters string) {
	t.Helper()
	for at := range len(letters) {
		want := zeros
		if letters[at] != ' ' {
			want = of(letters[at : at+1])
		}
		reads(t, what, d, at, want)
	}
	same(t, what+": Used", d.Used(), len(strings.ReplaceAll(letters, " ", "")))
}

// writes asks that each letter is written in the sector that stands ahead of it.
func writes(t *testing.T, d *Disk, l string) {
	t.Helper()
	for _, w := range strings.Fields(l) {
		if e := d.Write(int(w[0]-'0'), of(w[1:])); e != api.OK {
			t.Fatalf("Write(%s): %d", w, e)
		}
	}
}

// P4.1 to P4.5: each row of the chapter's table, one behind the other.
func TestExamples(t *testing.T) {
	d := made(t, 4, 2)
	same(t, "Write(1, a)", d.Write(1, of("a")), api.OK)
	reads(t, "row 1", d, 1, of("a"))
	reads(t, "row 1", d, 0, zeros)
	same(t, "Used", d.Used(), 1)
	same(t, "Write(4, a)", d.Write(4, of("a")), api.ErrArg)
	same(t, "Write(1, one letter)", d.Write(1, "a"), api.ErrArg)

	same(t, "Flush", d.Flush(), api.OK)
	same(t, "Write(1, b)", d.Write(1, of("b")), api.OK)
	same(t, "Write(2, b)", d.Write(2, of("b")), api.OK)
	same(t, "Write(3, b)", d.Write(3, of("b")), api.ErrFull)
	same(t, "Fits(2 1)", d.Fits([]int{2, 1}), true)
	same(t, "Fits(3)", d.Fits([]int{3}), false)

	d.Off()
	unread(t, "row 3", d, 1, api.ErrOff)
	d.Wake([]bool{true, false})
	reads(t, "row 3", d, 1, of("b"))
	reads(t, "row 3", d, 2, zeros)
	same(t, "Used", d.Used(), 1)

	d.Arm(2)
	same(t, "Write(0, a)", d.Write(0, of("a")), api.OK)
	same(t, "Flush", d.Flush(), api.ErrOff)
	same(t, "On", d.On(), false)
	d.Wake(nil)
	reads(t, "row 4", d, 0, zeros)
	reads(t, "row 4", d, 1, of("b"))
}

// P4.1
func TestNew(t *testing.T) {
	for _, x := range []struct {
		sectors, room int
		is            bool
	}{
		{0, 0, false}, {0, 5, false}, {-1, 5, false}, {math.MinInt, 5, false},
		{1025, 5, false}, {1025, 0, false}, {math.MaxInt, 5, false},
		{1, -1, false}, {1024, -1, false}, {4, math.MinInt, false}, {0, -1, false}, {1025, -1, false},
		{1, 0, true}, {1, 1, true}, {2, 1, true}, {446, 100, true}, {1023, 7, true}, {1024, 0, true}, {1024, 1024, true}, {1024, math.MaxInt, true},
	} {
		d := New(x.sectors, x.room)
		if (d != nil) != x.is {
			t.Errorf("New(%d, %d): %v", x.sectors, x.room, d != nil)
		}
		if d == nil {
			continue
		}
		same(t, "Len", d.Len(), x.sectors)
		same(t, "Used", d.Used(), 0)
		same(t, "On", d.On(), true)
		same(t, "Fits(0)", d.Fits([]int{0}), x.room > 0)
		for at := range x.sectors {
			reads(t, "a new one", d, at, zeros)
		}
		unread(t, "a new one", d, x.sectors, api.ErrArg)
	}
}

// P4.1: a new disk has no fuse.
func TestNewHasNoFuse(t *testing.T) {
	d := made(t, 2, 2)
	for range 300 {
		if d.Write(0, of("a")) != api.OK || d.Flush() != api.OK {
			t.Fatal("the power goes")
		}
	}
	same(t, "On", d.On(), true)
}

// P4.1, P4.2: the smallest and the greatest disk, whole.
func TestWholeDisks(t *testing.T) {
	for _, n := range []int{1, 2, 1024} {
		d := made(t, n, n)
		letter := func(at int) string { return of(string([]byte{byte(at), byte(at >> 8)}))[:32] }
		for at := range n {
			same(t, "Used", d.Used(), at)
			same(t, "Write", d.Write(at, letter(at)), api.OK)
		}
		same(t, "Used", d.Used(), n)
		same(t, "Len", d.Len(), n)
		for at := range n {
			reads(t, "a whole one", d, at, letter(at))
		}
		same(t, "Write behind the last one", d.Write(n, of("a")), api.ErrArg)
		d.Off()
		d.Wake(nil)
		same(t, "Used behind a Wake", d.Used(), 0)
	}
}

// P4.1, P4.2
func TestUsedCountsSectors(t *testing.T) {
	d := made(t, 4, 4)
	for i, x := range []struct{ at, want int }{{2, 1}, {2, 1}, {0, 2}, {2, 2}, {3, 3}, {0, 3}, {1, 4}, {1, 4}} {
		same(t, "Write", d.Write(x.at, of(string(rune('a'+i)))), api.OK)
		same(t, "Used", d.Used(), x.want)
		if i == 4 {
			d.Flush()
		}
	}
	// A sector that was written with zeros was written, too.
	d = made(t, 4, 1)
	writes(t, d, "2\x00")
	same(t, "Used", d.Used(), 1)
	same(t, "Write of another one", d.Write(1, of("a")), api.ErrFull)
	d.Off()
	same(t, "Used without power", d.Used(), 1)
	same(t, "Len without power", d.Len(), 4)
	same(t, "Fits(1) without power", d.Fits([]int{1}), false)
}

// P4.1
func TestSetRoom(t *testing.T) {
	d := made(t, 5, 5)
	writes(t, d, "0a 1b 2c")
	d.Flush()
	for _, x := range []struct {
		room        int
		fits3, both bool
	}{{5, true, true}, {4, true, false}, {3, false, false}, {2, false, false}, {0, false, false}, {-1, false, false}, {math.MinInt, false, false}, {math.MaxInt, true, true}, {6, true, true}} {
		d.SetRoom(x.room)
		same(t, "Fits(3)", d.Fits([]int{3}), x.fits3)
		same(t, "Fits(3 4)", d.Fits([]int{3, 4}), x.both)
		same(t, "Fits of what is there", d.Fits([]int{0, 1, 2, 0}), true)
		same(t, "Fits of none", d.Fits(nil), true)
		same(t, "Used", d.Used(), 3)
		same(t, "Len", d.Len(), 5)
		c := d.Copy()
		want := api.OK
		if !x.fits3 {
			want = api.ErrFull
		}
		same(t, "Write(3)", c.Write(3, of("d")), want)
		same(t, "Write(0)", c.Write(0, of("x")), api.OK)
	}
	// A room below 0 is 0, and is not made up for later.
	d = made(t, 3, 3)
	d.SetRoom(-7)
	same(t, "Write without room", d.Write(0, of("a")), api.ErrFull)
	d.SetRoom(1)
	writes(t, d, "0a")
	same(t, "Write of another one", d.Write(1, of("a")), api.ErrFull)
}

// P4.1, P4.5: the room is made less than what was written, and is told without power, too.
func TestRoomBelowWhatWasWritten(t *testing.T) {
	d := made(t, 5, 5)
	writes(t, d, "0a 1b")
	d.Flush()
	writes(t, d, "2c 3d")
	d.SetRoom(2)
	same(t, "Write(4)", d.Write(4, of("e")), api.ErrFull)
	writes(t, d, "3x")
	d.Off()
	d.SetRoom(1)
	same(t, "Fits(0 3)", d.Fits([]int{0, 3}), true)
	d.Wake([]bool{true, true, true})
	holds(t, "all stay", d, "abcx ")
	d.Off()
	d.SetRoom(3)
	d.Wake(nil)
	holds(t, "they were not unflushed any more", d, "abcx ")
	d.SetRoom(5)
	writes(t, d, "4e")
}

// P4.2, P4.5: what is lost leaves its room.
func TestRoomOfWhatIsLost(t *testing.T) {
	d := made(t, 5, 2)
	writes(t, d, "0a")
	d.Flush()
	writes(t, d, "1b")
	same(t, "Write(2)", d.Write(2, of("c")), api.ErrFull)
	d.Off()
	// It is lost when the disk wakes, not ahead of it.
	same(t, "Used without power", d.Used(), 2)
	same(t, "Fits(2) without power", d.Fits([]int{2}), false)
	d.Wake(nil)
	same(t, "Used", d.Used(), 1)
	same(t, "Fits(2)", d.Fits([]int{2}), true)
	writes(t, d, "2c")
	same(t, "Write(1)", d.Write(1, of("b")), api.ErrFull)
	holds(t, "another one", d, "a c  ")
}

// P4.2
func TestWriteArguments(t *testing.T) {
	d := made(t, 4, 1)
	for _, x := range []struct {
		at   int
		data string
	}{
		{-1, of("a")}, {4, of("a")}, {5, of("a")}, {math.MinInt, of("a")}, {math.MaxInt, of("a")},
		{0, ""}, {0, "a"}, {0, of("a")[1:]}, {0, of("a") + "a"}, {0, of("ab")}, {3, of("é")},
		{-1, ""}, {4, "a"},
	} {
		same(t, "Write", d.Write(x.at, x.data), api.ErrArg)
		holds(t, "nothing was written", d, "    ")
	}
	// Letters are counted as bytes.
	if e := d.Write(0, strings.Repeat("é", 16)); e != api.OK {
		t.Error(e)
	}
	reads(t, "16 letters", d, 0, strings.Repeat("é", 16))
}

// P4.2, R2: no power goes ahead of no sector, that ahead of no room, that ahead of the power that goes by the operation.
func TestOrderOfErrors(t *testing.T) {
	d := made(t, 4, 1)
	writes(t, d, "0a")
	d.Arm(1)
	same(t, "no sector, no room, a fuse", d.Write(4, of("b")), api.ErrArg)
	same(t, "too few bytes, no room, a fuse", d.Write(1, "b"), api.ErrArg)
	same(t, "no room, a fuse", d.Write(1, of("b")), api.ErrFull)
	unread(t, "no sector", d, 4, api.ErrArg)
	same(t, "On", d.On(), true)
	same(t, "a fuse", d.Write(0, of("b")), api.ErrOff)
	same(t, "On", d.On(), false)
	same(t, "no power, no sector", d.Write(4, of("b")), api.ErrOff)
	same(t, "no power, too few bytes", d.Write(1, "b"), api.ErrOff)
	same(t, "no power, no room", d.Write(1, of("b")), api.ErrOff)
	same(t, "no power", d.Write(0, of("b")), api.ErrOff)
	same(t, "no power", d.Flush(), api.ErrOff)
	unread(t, "no power", d, 0, api.ErrOff)
	unread(t, "no power, no sector", d, 4, api.ErrOff)
	unread(t, "no power, no sector", d, -1, api.ErrOff)
	d.Wake([]bool{true})
	holds(t, "nothing was done without power", d, "a   ")
}

// P4.2, P4.4
func TestFuseAtAWrite(t *testing.T) {
	for n := 1; n <= 5; n++ {
		d := made(t, 5, 5)
		d.Arm(n)
		for i := range n - 1 {
			same(t, "Write ahead of it", d.Write(i, of("a")), api.OK)
			same(t, "On", d.On(), true)
		}
		same(t, "Write", d.Write(n-1, of("a")), api.ErrOff)
		same(t, "On", d.On(), false)
		same(t, "Used", d.Used(), n-1)
		d.Wake([]bool{true, true, true, true, true})
		holds(t, "the last one was not done", d, strings.Repeat("a", n-1)+strings.Repeat(" ", 6-n))
		// The fuse is gone.
		for range 10 {
			same(t, "Write behind it", d.Write(4, of("b")), api.OK)
		}
	}
}

// P4.2, P4.4: a Flush by which the power goes flushes nothing.
func TestFuseAtAFlush(t *testing.T) {
	d := made(t, 3, 3)
	writes(t, d, "0a")
	d.Flush()
	writes(t, d, "0b 1c")
	d.Arm(1)
	same(t, "Flush", d.Flush(), api.ErrOff)
	same(t, "On", d.On(), false)
	d.Wake([]bool{false, true})
	holds(t, "some stay", d, "ac ")
	same(t, "Flush", d.Flush(), api.OK)
	d.Arm(3)
	same(t, "Flush", d.Flush(), api.OK)
	same(t, "Flush of nothing", d.Flush(), api.OK)
	same(t, "Flush of nothing", d.Flush(), api.ErrOff)
}

// P4.2, P4.4: only operations take from a fuse; not what is refused, nor what is asked.
func TestFuseIsNotTakenFrom(t *testing.T) {
	d := made(t, 4, 1)
	writes(t, d, "0a")
	d.Arm(2)
	for range 5 {
		same(t, "Write(4)", d.Write(4, of("b")), api.ErrArg)
		same(t, "Write of a byte", d.Write(0, "b"), api.ErrArg)
		same(t, "Write(1)", d.Write(1, of("b")), api.ErrFull)
		reads(t, "a fuse", d, 0, of("a"))
		unread(t, "a fuse", d, 4, api.ErrArg)
		d.Fits([]int{0, 1})
		d.SetRoom(1)
		d.Used()
		d.Len()
		d.On()
		d.Copy().Flush()
		d.Wake([]bool{true})
	}
	same(t, "Write", d.Write(0, of("c")), api.OK)
	same(t, "Write", d.Write(0, of("d")), api.ErrOff)
}

// P4.4
func TestArm(t *testing.T) {
	d := made(t, 1, 1)
	for _, n := range []int{0, -1, math.MinInt} {
		d.Arm(1)
		d.Arm(n)
		for range 5 {
			same(t, "Flush without a fuse", d.Flush(), api.OK)
		}
	}
	d.Arm(1)
	d.Arm(3)
	same(t, "Flush", d.Flush(), api.OK)
	d.Arm(2)
	same(t, "Flush", d.Flush(), api.OK)
	same(t, "Flush", d.Flush(), api.ErrOff)
	d.Wake(nil)
	d.Arm(math.MaxInt)
	for range 5 {
		same(t, "Flush with a long fuse", d.Flush(), api.OK)
	}
}

// P4.4: the fuse goes with the power; one that is set while it is off stays.
func TestFuseAndPower(t *testing.T) {
	d := made(t, 1, 1)
	d.Arm(1)
	d.Off()
	same(t, "On", d.On(), false)
	d.Wake(nil)
	same(t, "On", d.On(), true)
	same(t, "Flush", d.Flush(), api.OK)

	d.Off()
	d.Arm(2)
	same(t, "Flush without power", d.Flush(), api.ErrOff)
	same(t, "Write without power", d.Write(0, of("a")), api.ErrOff)
	d.Wake(nil)
	same(t, "Flush", d.Flush(), api.OK)
	same(t, "Flush", d.Flush(), api.ErrOff)

	d.Arm(1)
	d.Off()
	d.Wake(nil)
	same(t, "Flush", d.Flush(), api.OK)
}

// P4.5: of two sectors' writes, one behind the other, all that may stay.
func TestWake(t *testing.T) {
	for _, x := range []struct {
		keep []bool
		want string
	}{
		{nil, "ab    "},
		{[]bool{}, "ab    "},
		{[]bool{false}, "ab    "},
		{[]bool{false, false, false, false, false}, "ab    "},
		{[]bool{false, false, false, false, false, true, true, true}, "ab    "},
		{[]bool{true}, "cb    "},
		{[]bool{false, true}, "ab d  "},
		{[]bool{false, false, true}, "eb    "},
		{[]bool{false, false, false, true}, "ab f  "},
		{[]bool{false, false, false, false, true}, "gb    "},
		{[]bool{true, false, true}, "eb    "},
		{[]bool{true, false, false, false, true}, "gb    "},
		{[]bool{true, true}, "cb d  "},
		{[]bool{true, true, false, true}, "cb f  "},
		{[]bool{false, true, true, false, false}, "eb d  "},
		{[]bool{true, true, true, true}, "eb f  "},
		{[]bool{true, true, true, true, true}, "gb f  "},
		{[]bool{true, true, true, true, true, true, true, true, true}, "gb f  "},
	} {
		d := made(t, 6, 6)
		writes(t, d, "0a 1b")
		d.Flush()
		writes(t, d, "0c 3d 0e 3f 0g")
		holds(t, "ahead of it", d, "gb f  ")
		d.Off()
		kept := slices.Clone(x.keep)
		d.Wake(x.keep)
		same(t, "On", d.On(), true)
		holds(t, "behind it", d, x.want)
		same(t, "keep has not changed", slices.Equal(kept, x.keep), true)
		// Nothing is unflushed any more.
		d.Off()
		d.Wake([]bool{false, false})
		holds(t, "behind another one", d, x.want)
		d.Off()
		d.Wake([]bool{true, true, true, true, true})
		holds(t, "behind a third one", d, x.want)
	}
}

// P4.5
func TestWakeWithPower(t *testing.T) {
	d := made(t, 3, 3)
	writes(t, d, "0a 1b")
	d.Arm(2)
	d.Wake(nil)
	d.Wake([]bool{false, true})
	holds(t, "nothing is lost", d, "ab ")
	writes(t, d, "2c")
	same(t, "the fuse is there", d.Flush(), api.ErrOff)
	d.Wake([]bool{false, true, true})
	holds(t, "all were unflushed", d, " bc")
}

// P4.5: numbers count from the last Flush or Wake on, and only what was done.
func TestWakeCountsWritesThatWereDone(t *testing.T) {
	d := made(t, 4, 2)
	writes(t, d, "0a")
	d.Flush()
	d.Write(9, of("x"))
	writes(t, d, "1b")
	d.Write(2, of("x"))
	d.Write(0, "x")
	writes(t, d, "0c")
	d.Off()
	d.Write(0, of("x"))
	d.Wake([]bool{false, true})
	holds(t, "the second one stays", d, "c   ")
	writes(t, d, "2d")
	d.Off()
	d.Wake([]bool{true})
	holds(t, "the first one stays", d, "c d ")
}

// P4.5: what was lost does not come back.
func TestWhatWasLostIsGone(t *testing.T) {
	d := made(t, 3, 3)
	writes(t, d, "0a 1b")
	d.Off()
	d.Wake([]bool{true, false})
	holds(t, "the second one is lost", d, "a  ")
	writes(t, d, "1c 1d")
	d.Off()
	d.Wake([]bool{false, false})
	holds(t, "all are lost", d, "a  ")
	same(t, "Flush", d.Flush(), api.OK)
	d.Off()
	d.Wake([]bool{true, true, true})
	holds(t, "still", d, "a  ")
}

// P4.3
func TestFits(t *testing.T) {
	d := made(t, 6, 4)
	writes(t, d, "1a 4b")
	for _, x := range []struct {
		at   []int
		want bool
	}{
		{nil, true}, {[]int{}, true},
		{[]int{1}, true}, {[]int{1, 4, 1, 4, 1, 4}, true},
		{[]int{0}, true}, {[]int{5}, true}, {[]int{0, 2}, true}, {[]int{0, 2, 1, 4}, true}, {[]int{1, 0, 4, 2}, true},
		{[]int{0, 0, 0, 0}, true}, {[]int{0, 2, 0, 2, 2}, true}, {[]int{0, 1, 0, 1, 2}, true},
		{[]int{0, 2, 3}, false}, {[]int{0, 2, 0, 3}, false}, {[]int{0, 2, 3, 5}, false}, {[]int{1, 0, 4, 2, 5}, false},
		{[]int{6}, false}, {[]int{-1}, false}, {[]int{1, 6}, false}, {[]int{6, 1}, false}, {[]int{0, -1}, false}, {[]int{1, 4, math.MaxInt}, false}, {[]int{math.MinInt, 0}, false},
	} {
		for _, on := range []bool{true, false} {
			c := d.Copy()
			if !on {
				c.Off()
			}
			at := slices.Clone(x.at)
			if got := c.Fits(x.at); got != x.want || !slices.Equal(at, x.at) {
				t.Errorf("Fits(%v), the power %v: %v", x.at, on, got)
			}
			same(t, "Used", c.Used(), 2)
			same(t, "On", c.On(), on)
		}
	}
	// What is asked only takes no room.
	for range 3 {
		same(t, "Fits(0 2)", d.Fits([]int{0, 2}), true)
		same(t, "Fits(3 5)", d.Fits([]int{3, 5}), true)
	}
	many := make([]int, 1<<16)
	same(t, "Fits of one sector very often", made(t, 2, 1).Fits(many), true)
	same(t, "Fits without room", made(t, 2, 0).Fits(many), false)
}

// P4.6
func TestCopyGoesItsOwnWay(t *testing.T) {
	d := made(t, 4, 4)
	writes(t, d, "0a")
	d.Flush()
	writes(t, d, "0b 1c")
	c := d.Copy()
	holds(t, "the copy", c, "bc  ")
	same(t, "Len", c.Len(), 4)
	same(t, "On", c.On(), true)
	writes(t, c, "2d 0e")
	writes(t, d, "3f 1g 3h")
	holds(t, "the copy", c, "ecd ")
	holds(t, "the disk", d, "bg h")
	c.Off()
	same(t, "the disk's power", d.On(), true)
	c.Wake([]bool{false, true, true, false})
	holds(t, "the copy", c, "acd ")
	d.Off()
	same(t, "the copy's power", c.On(), true)
	d.Wake([]bool{true, false, false, true, true})
	holds(t, "the disk", d, "bg h")
	c.SetRoom(3)
	same(t, "Fits of the disk", d.Fits([]int{2}), true)
	same(t, "Fits of the copy", c.Fits([]int{3}), false)
	c.Arm(1)
	same(t, "Flush of the disk", d.Flush(), api.OK)
	same(t, "Flush of the copy", c.Flush(), api.ErrOff)
}

// P4.6: power, fuse, room and what is unflushed are the same.
func TestCopyIsTheSame(t *testing.T) {
	d := made(t, 4, 3)
	writes(t, d, "0a")
	d.Flush()
	writes(t, d, "0b 1c")
	d.Arm(2)
	for range 2 {
		c := d.Copy()
		same(t, "Write of the copy", c.Write(2, of("d")), api.OK)
		same(t, "Write without room", c.Write(3, of("d")), api.ErrFull)
		same(t, "the copy's fuse", c.Flush(), api.ErrOff)
		again := c.Copy()
		same(t, "a copy without power", again.On(), false)
		again.Wake([]bool{false, true, true})
		holds(t, "a copy that wakes", again, "acd ")
		same(t, "a copy without a fuse", again.Flush(), api.OK)
		c.Wake([]bool{true})
		holds(t, "the copy", c, "b   ")
	}
	// A copy of a disk without power keeps a fuse that was set since.
	d.Off()
	d.Arm(1)
	c := d.Copy()
	c.Wake(nil)
	same(t, "Flush", c.Flush(), api.ErrOff)
	same(t, "On of the disk", d.On(), false)
}

// R1, R3
func TestNoDisk(t *testing.T) {
	for range 2 {
		var d *Disk
		same(t, "Write", d.Write(0, of("a")), api.ErrNil)
		same(t, "Write of nothing", d.Write(-1, ""), api.ErrNil)
		unread(t, "no disk", d, 0, api.ErrNil)
		unread(t, "no disk", d, -1, api.ErrNil)
		same(t, "Flush", d.Flush(), api.ErrNil)
		same(t, "Fits()", d.Fits(nil), false)
		same(t, "Fits(0)", d.Fits([]int{0}), false)
		same(t, "Used", d.Used(), 0)
		same(t, "Len", d.Len(), 0)
		same(t, "On", d.On(), false)
		d.SetRoom(3)
		d.Arm(3)
		d.Off()
		d.Wake(nil)
		d.Wake([]bool{true})
		same(t, "On", d.On(), false)
		if d.Copy() != nil || New(0, 0).Copy() != nil {
			t.Error("Copy")
		}
	}
}

// R1: a disk that New did not make has no sectors.
func TestDiskOfNoSectors(t *testing.T) {
	d := &Disk{}
	for range 2 {
		if d.Write(0, of("a")) == api.OK || d.Fits([]int{0}) || d.Used() != 0 || d.Len() != 0 {
			t.Error("there is a sector")
		}
		d.SetRoom(1)
		d.Arm(1)
		d.Flush()
		d.Off()
		d.Wake([]bool{true})
		d = d.Copy()
	}
}

// R5: what a disk holds is its own.
func TestDataIsCopied(t *testing.T) {
	b := []byte(of("a"))
	d := made(t, 2, 2)
	same(t, "Write", d.Write(0, unsafe.String(&b[0], len(b))), api.OK)
	copy(b, of("x"))
	reads(t, "what was handed in is another one now", d, 0, of("a"))
	d.Off()
	d.Wake([]bool{true})
	reads(t, "also behind a Wake", d, 0, of("a"))
	one, _ := d.Read(0)
	two, _ := d.Read(0)
	if unsafe.StringData(one) == unsafe.StringData(two) {
		t.Error("two answers share their bytes")
	}
	none, _ := d.Read(1)
	again, _ := d.Read(1)
	if unsafe.StringData(none) == unsafe.StringData(again) {
		t.Error("two answers of zeros share their bytes")
	}
}

// P4.7, P4.8: some writes, a Flush somewhere among them, and whatever stays of those behind it.
func TestWhateverStays(t *testing.T) {
	at := []int{0, 1, 0, 2, 1, 0}
	for flush := range len(at) + 1 {
		for bits := range 1 << (len(at) - flush) {
			d := made(t, 3, 3)
			want := []byte("   ")
			for i, n := range at {
				if i == flush {
					d.Flush()
				}
				letter := byte('a' + i)
				same(t, "Write", d.Write(n, of(string(letter))), api.OK)
				if i < flush || bits>>(i-flush)&1 == 1 {
					want[n] = letter
				}
			}
			if flush == len(at) {
				d.Flush()
			}
			keep := make([]bool, len(at)-flush)
			for i := range keep {
				keep[i] = bits>>i&1 == 1
			}
			d.Off()
			d.Wake(keep)
			holds(t, "behind a Wake", d, string(want))
		}
	}
}

// P4.7, P4.8: the power goes at each operation of some.
func TestPowerGoesAnywhere(t *testing.T) {
	ops := "wwfwfwwwff"
	for fuse := 1; fuse <= len(ops); fuse++ {
		d := made(t, 4, 4)
		d.Arm(fuse)
		now, safe := []byte("    "), []byte("    ")
		for i := range len(ops) {
			want := api.OK
			if i >= fuse-1 {
				want = api.ErrOff
			}
			letter := byte('a' + i)
			if ops[i] == 'f' {
				same(t, "Flush", d.Flush(), want)
			} else {
				same(t, "Write", d.Write(i%4, of(string(letter))), want)
			}
			if want == api.OK && ops[i] == 'f' {
				copy(safe, now)
			} else if want == api.OK {
				now[i%4] = letter
			}
		}
		c := d.Copy()
		c.Wake(nil)
		holds(t, "nothing stays", c, string(safe))
		c = d.Copy()
		c.Wake([]bool{true, true, true, true, true, true, true, true})
		holds(t, "all stays", c, string(now))
	}
}

// told is a disk as the chapter's words tell it: all the writes that were not lost.
type told struct {
	sectors, room, fuse int
	on                  bool
	writes              []toldWrite
}

type toldWrite struct {
	at      int
	data    string
	flushed bool
}

// read answers the last write of the sector, if there is one.
func (d *told) read(at int) (string, bool) {
	data, is := zeros, false
	for _, w := range d.writes {
		if w.at == at {
			data, is = w.data, true
		}
	}
	return data, is
}

func (d *told) used() int {
	n := 0
	for at := range d.sectors {
		if _, is := d.read(at); is {
			n++
		}
	}
	return n
}

func (d *told) off() { d.on, d.fuse = false, 0 }

// goes tells whether the power goes by an operation.
func (d *told) goes() bool {
	if d.fuse == 0 {
		return false
	}
	d.fuse--
	if d.fuse > 0 {
		return false
	}
	d.off()
	return true
}

func (d *told) write(at int, data string) api.Errno {
	if !d.on {
		return api.ErrOff
	}
	if at < 0 || at >= d.sectors || len(data) != 32 {
		return api.ErrArg
	}
	if _, is := d.read(at); !is && d.used() >= d.room {
		return api.ErrFull
	}
	if d.goes() {
		return api.ErrOff
	}
	d.writes = append(d.writes, toldWrite{at: at, data: data})
	return api.OK
}

func (d *told) flush() api.Errno {
	if !d.on || d.goes() {
		return api.ErrOff
	}
	for i := range d.writes {
		d.writes[i].flushed = true
	}
	return api.OK
}

func (d *told) wake(keep []bool) {
	if d.on {
		return
	}
	d.on = true
	var stay []toldWrite
	n := 0
	for _, w := range d.writes {
		if w.flushed {
			stay = append(stay, w)
			continue
		}
		if n < len(keep) && keep[n] {
			w.flushed = true
			stay = append(stay, w)
		}
		n++
	}
	d.writes = stay
}

func (d *told) fits(at []int) bool {
	var other []int
	for _, n := range at {
		if n < 0 || n >= d.sectors {
			return false
		}
		if _, is := d.read(n); !is && !slices.Contains(other, n) {
			other = append(other, n)
		}
	}
	return len(other) == 0 || len(other) <= d.room-d.used()
}

func (d *told) copy() *told {
	c := *d
	c.writes = slices.Clone(d.writes)
	return &c
}

// pair is a disk, and what is told of it.
type pair struct {
	d *Disk
	r *told
}

// alike asks that all that may be asked of a disk is as it is told.
func (p pair) alike(t *testing.T) {
	t.Helper()
	if p.d.On() != p.r.on || p.d.Len() != p.r.sectors || p.d.Used() != p.r.used() {
		t.Fatalf("On %v, Len %d, Used %d, not %v, %d, %d", p.d.On(), p.d.Len(), p.d.Used(), p.r.on, p.r.sectors, p.r.used())
	}
	for at := -1; at <= p.r.sectors; at++ {
		want, e := "", api.ErrArg
		if at >= 0 && at < p.r.sectors {
			want, _ = p.r.read(at)
			e = api.OK
		}
		if !p.r.on {
			want, e = "", api.ErrOff
		}
		if got, g := p.d.Read(at); got != want || g != e {
			t.Fatalf("Read(%d): %q, %d, not %q, %d", at, got, g, want, e)
		}
	}
	all := []int{}
	for at := range p.r.sectors + 1 {
		for _, l := range [][]int{{at}, {at, 0}, {at, at}, all} {
			if p.d.Fits(l) != p.r.fits(l) {
				t.Fatalf("Fits(%v): %v", l, p.d.Fits(l))
			}
		}
		all = append(all, at)
	}
}

// follow does what the bytes say with disks of a few sectors and with what is told of them.
func follow(t *testing.T, choices []byte) {
	take := func() int {
		if len(choices) == 0 {
			return 0
		}
		x := choices[0]
		choices = choices[1:]
		return int(x)
	}
	sectors, room := take()%5+1, take()%6
	pairs := []pair{{made(t, sectors, room), &told{sectors: sectors, room: room, on: true}}}
	for len(choices) > 0 {
		i := take() % len(pairs)
		p := pairs[i]
		step(t, p, take)
		p.alike(t)
		if take()%16 == 0 {
			another := pair{p.d.Copy(), p.r.copy()}
			if len(pairs) < 3 {
				pairs = append(pairs, another)
			} else {
				pairs[take()%3] = another
			}
		}
		for _, p := range pairs {
			p.alike(t)
		}
	}
}

// step does one thing with both of a pair, and asks that the answers are alike.
func step(t *testing.T, p pair, take func() int) {
	t.Helper()
	switch take() % 16 {
	default:
		at, data := take()%(p.r.sectors+2)-1, of(string([]byte{byte('a' + take()%26)}))
		if take()%16 == 0 {
			data = data[take()%3:]
		}
		if got, want := p.d.Write(at, data), p.r.write(at, data); got != want {
			t.Fatalf("Write(%d, %q): %d, not %d", at, data, got, want)
		}
	case 9, 10:
		if got, want := p.d.Flush(), p.r.flush(); got != want {
			t.Fatalf("Flush: %d, not %d", got, want)
		}
	case 11:
		n := take()%10 - 2
		p.d.Arm(n)
		p.r.fuse = max(n, 0)
	case 12:
		p.d.Off()
		p.r.off()
	case 13, 14:
		keep := make([]bool, take()%8)
		for i, bits := 0, take(); i < len(keep); i++ {
			keep[i] = bits>>i&1 == 1
		}
		p.d.Wake(keep)
		p.r.wake(keep)
	case 15:
		n := take()%8 - 1
		p.d.SetRoom(n)
		p.r.room = max(n, 0)
	}
}

// bytesOf answers n bytes that are well mixed, another lot for each seed.
func bytesOf(seed uint64, n int) []byte {
	b := make([]byte, n)
	for i := range b {
		seed = seed*6364136223846793005 + 1442695040888963407
		b[i] = byte(seed >> 56)
	}
	return b
}

// P4.1 to P4.8, R6
func TestAsTheWordsTell(t *testing.T) {
	for seed := range uint64(1500) {
		follow(t, bytesOf(seed, 400))
	}
}

// P4.1 to P4.8
func FuzzDisk(f *testing.F) {
	f.Add([]byte{})
	f.Add(bytesOf(7, 30))
	f.Add(bytesOf(8, 300))
	f.Fuzz(func(t *testing.T, choices []byte) {
		follow(t, choices[:min(len(choices), 2000)])
	})
}
