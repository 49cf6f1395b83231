package chain

import (
	"fmt"
	"math"
	"slices"
	"strings"
	"testing"

	"stemma/api"
)

// of answers a block's bytes, all alike.
func of(letter string) string { return strings.Repeat(letter, 32) }

// guid answers the guid of that epoch and count.
func guid(epoch, count uint64) api.Guid { return api.Guid{Epoch: epoch, Count: count} }

// blocksOf answers a block for each letter; a blank is zeros.
func blocksOf(letters string) []string {
	l := make([]string, len(letters))
	for i := range l {
		l[i] = of(strings.ReplaceAll(letters[i:i+1], " ", "\x00"))
	}
	return l
}

// changesOf answers a change for each word: the block, and the letter of its data; without a letter it is zeros.
func changesOf(words string) []api.Change {
	var l []api.Change
	for _, w := range strings.Fields(words) {
		letter := w[1:]
		if letter == "" {
			letter = "\x00"
		}
		l = append(l, api.Change{Block: int(w[0] - '0'), Data: of(letter)})
	}
	return l
}

// short answers blocks as blocksOf takes them.
func short(blocks []string) string {
	var b strings.Builder
	for _, s := range blocks {
		if len(s) != 32 || s != of(s[:1]) {
			return fmt.Sprintf("%q", blocks)
		}
		b.WriteString(strings.ReplaceAll(s[:1], "\x00", " "))
	}
	return b.String()
}

// told answers changes as a text.
func told(changes []api.Change) string {
	var b strings.Builder
	for _, x := range changes {
		fmt.Fprintf(&b, "[%d %q]", x.Block, x.Data)
	}
	return b.String()
}

// made answers a chain, and asks that there is one.
func made(t *testing.T, blocks int) *Chain {
	t.Helper()
	c := New(blocks)
	if c == nil {
		t.Fatalf("New(%d): none", blocks)
	}
	return c
}

// is asks that a call's error is that one.
func is(t *testing.T, what string, got, want api.Errno) {
	t.Helper()
	if got != want {
		t.Errorf("%s: %d, not %d", what, got, want)
	}
}

// lives asks that the live volume has those blocks.
func lives(t *testing.T, what string, c *Chain, letters string) {
	t.Helper()
	if l := c.Live(); !slices.Equal(l, blocksOf(letters)) {
		t.Errorf("%s: the live volume is %s, not %s", what, short(l), letters)
	}
}

// lists asks that those are the snapshots' guids.
func lists(t *testing.T, what string, c *Chain, want ...api.Guid) {
	t.Helper()
	if l := c.List(); !slices.Equal(l, want) {
		t.Errorf("%s: List: %v, not %v", what, l, want)
	}
}

// reads asks that the snapshot g has those blocks.
func reads(t *testing.T, what string, c *Chain, g api.Guid, letters string) {
	t.Helper()
	if l, e := c.Read(g); e != api.OK || !slices.Equal(l, blocksOf(letters)) {
		t.Errorf("%s: Read(%v): %s, %d, not %s", what, g, short(l), e, letters)
	}
}

// unread asks that the snapshot g is not read, for that error.
func unread(t *testing.T, what string, c *Chain, g api.Guid, want api.Errno) {
	t.Helper()
	if l, e := c.Read(g); e != want || l != nil {
		t.Errorf("%s: Read(%v): %s, %d, not %d", what, g, short(l), e, want)
	}
}

// differs asks that those are the n-th snapshot's changes.
func differs(t *testing.T, what string, c *Chain, n int, words string) {
	t.Helper()
	if l, e := c.Changes(n); e != api.OK || !slices.Equal(l, changesOf(words)) {
		t.Errorf("%s: Changes(%d): %s, %d, not %s", what, n, told(l), e, words)
	}
}

// noChanges asks that there is no n-th snapshot.
func noChanges(t *testing.T, what string, c *Chain, n int) {
	t.Helper()
	if l, e := c.Changes(n); e != api.ErrNone || l != nil {
		t.Errorf("%s: Changes(%d): %s, %d, not ErrNone", what, n, told(l), e)
	}
}

// writes asks that each word is written: the block, and the letter of its data; without a letter it is zeros.
func writes(t *testing.T, c *Chain, words string) {
	t.Helper()
	for _, x := range changesOf(words) {
		is(t, "Write of "+words, c.Write(x.Block, x.Data), api.OK)
	}
}

// snaps asks that the live volume is a snapshot g.
func snaps(t *testing.T, c *Chain, g api.Guid) {
	t.Helper()
	is(t, fmt.Sprintf("Snap(%v)", g), c.Snap(g), api.OK)
}

// adds asks that the base with those changes is a snapshot g.
func adds(t *testing.T, c *Chain, g api.Guid, words string) {
	t.Helper()
	is(t, fmt.Sprintf("Add(%v, %s)", g, words), c.Add(g, changesOf(words)), api.OK)
}

// state answers all that can be seen of a chain, as a text.
func state(c *Chain) string {
	var b strings.Builder
	fmt.Fprintf(&b, "live %q;", c.Live())
	for n, g := range c.List() {
		l, e := c.Read(g)
		changes, e2 := c.Changes(n)
		fmt.Fprintf(&b, " %v: %q %d, %s %d;", g, l, e, told(changes), e2)
	}
	return b.String()
}

// refused asks that what is done answers that error, and leaves the chain as it was.
func refused(t *testing.T, what string, c *Chain, want api.Errno, do func() api.Errno) {
	t.Helper()
	was := state(c)
	is(t, what, do(), want)
	if now := state(c); now != was {
		t.Errorf("%s was refused, and made %s of %s", what, now, was)
	}
}

// addRefused asks that Add answers that error, and leaves the chain, and what was handed in, as they were.
func addRefused(t *testing.T, c *Chain, want api.Errno, g api.Guid, changes []api.Change) {
	t.Helper()
	handed := slices.Clone(changes)
	refused(t, fmt.Sprintf("Add(%v, %s)", g, told(changes)), c, want, func() api.Errno { return c.Add(g, changes) })
	if !slices.Equal(handed, changes) {
		t.Errorf("Add made %s of %s", told(changes), told(handed))
	}
}

// snapRefused asks that Snap and Add refuse g, for that error.
func snapRefused(t *testing.T, c *Chain, want api.Errno, g api.Guid) {
	t.Helper()
	refused(t, fmt.Sprintf("Snap(%v)", g), c, want, func() api.Errno { return c.Snap(g) })
	addRefused(t, c, want, g, nil)
}

// The chapter's table, row by row.
func TestExamples(t *testing.T) {
	c := made(t, 2)
	is(t, "Write(0, a)", c.Write(0, of("a")), api.OK)
	is(t, "Snap(1 1)", c.Snap(guid(1, 1)), api.OK)
	is(t, "Write(1, a)", c.Write(1, of("a")), api.OK)
	reads(t, "row 1", c, guid(1, 1), "a ")
	lives(t, "row 1", c, "aa")

	is(t, "Add(1 2, 1: a)", c.Add(guid(1, 2), changesOf("1a")), api.OK)
	lists(t, "row 2", c, guid(1, 1), guid(1, 2))
	differs(t, "row 2", c, 0, "0a")
	differs(t, "row 2", c, 1, "1a")
	noChanges(t, "row 2", c, 2)

	refused(t, "Snap(1 2)", c, api.ErrArg, func() api.Errno { return c.Snap(guid(1, 2)) })
	refused(t, "Snap(0 0)", c, api.ErrArg, func() api.Errno { return c.Snap(guid(0, 0)) })
	addRefused(t, c, api.ErrArg, guid(2, 1), changesOf("1a 0a"))
	refused(t, "Write(2, a)", c, api.ErrArg, func() api.Errno { return c.Write(2, of("a")) })

	is(t, "Hide(1 1)", c.Hide(guid(1, 1)), api.OK)
	is(t, "Hide(1 1)", c.Hide(guid(1, 1)), api.ErrGone)
	unread(t, "row 4", c, guid(1, 1), api.ErrGone)
	unread(t, "row 4", c, guid(3, 1), api.ErrNone)
	is(t, "Rollback(1)", c.Rollback(1), api.OK)
	lives(t, "row 4", c, "a ")
	lists(t, "row 4", c, guid(1, 1))
}

// P8.1
func TestNew(t *testing.T) {
	for _, blocks := range []int{math.MinInt, -257, -9, -8, -1, 0, 9, 10, 16, 255, 256, 257, 1 << 16, 1 << 32, 1<<32 + 1, math.MaxInt} {
		if New(blocks) != nil {
			t.Errorf("New(%d): a chain", blocks)
		}
	}
	for blocks := 1; blocks <= 8; blocks++ {
		c := made(t, blocks)
		lives(t, "a new one", c, strings.Repeat(" ", blocks))
		lists(t, "a new one", c)
		for n := -1; n < 3; n++ {
			noChanges(t, "a new one", c, n)
		}
		unread(t, "a new one", c, guid(0, 0), api.ErrNone)
		unread(t, "a new one", c, guid(1, 1), api.ErrNone)
		is(t, "Hide", c.Hide(guid(0, 0)), api.ErrNone)
		is(t, "Hide", c.Hide(guid(1, 1)), api.ErrNone)
	}
	one, other := made(t, 2), made(t, 2)
	writes(t, one, "0a")
	snaps(t, one, guid(1, 1))
	lives(t, "another one", other, "  ")
	lists(t, "another one", other)
}

// P8.2: each block, and those that there are not.
func TestWriteBlocks(t *testing.T) {
	for blocks := 1; blocks <= 8; blocks++ {
		c := made(t, blocks)
		letters := []byte(strings.Repeat(" ", blocks))
		for block := range blocks {
			is(t, "Write", c.Write(block, of("x")), api.OK)
			letters[block] = 'x'
			lives(t, "Write", c, string(letters))
		}
		writes(t, c, "0y")
		letters[0] = 'y'
		lives(t, "Write once more", c, string(letters))
		for _, block := range []int{math.MinInt, -256, -8, -1, blocks, blocks + 1, blocks + 8, 8, 9, 256, 257, 1 << 32, 1<<32 + 1, math.MaxInt} {
			refused(t, fmt.Sprintf("Write(%d) of %d", block, blocks), c, api.ErrArg, func() api.Errno { return c.Write(block, of("z")) })
		}
		lives(t, "Write of no block", c, string(letters))
	}
}

// P8.2: a block's bytes, and more, and less.
func TestWriteData(t *testing.T) {
	c := made(t, 3)
	writes(t, c, "0a 1b 2c")
	for _, n := range []int{0, 1, 31, 33, 64, 288, 1 << 16} {
		data := strings.Repeat("x", n)
		for _, block := range []int{-1, 0, 1, 2, 3} {
			refused(t, fmt.Sprintf("Write(%d) of %d bytes", block, n), c, api.ErrArg, func() api.Errno { return c.Write(block, data) })
		}
	}
	for block, data := range []string{"0123456789abcdefghijklmnopqrstuv", of("\x00"), of("\xff")} {
		is(t, "Write of 32 bytes", c.Write(block, data), api.OK)
		if l := c.Live(); l[block] != data {
			t.Errorf("block %d is %q, not %q", block, l[block], data)
		}
	}
	// It is bytes that are counted, not letters.
	refused(t, "Write of 32 letters", c, api.ErrArg, func() api.Errno { return c.Write(0, strings.Repeat("ä", 32)) })
	is(t, "Write of 16 letters of two bytes", c.Write(0, strings.Repeat("ä", 16)), api.OK)
}

// P8.2, P8.3: which guids are above the last one.
func TestGuidsAbove(t *testing.T) {
	const most = math.MaxUint64
	for _, x := range []struct {
		last, g api.Guid
		above   bool
	}{
		{guid(0, 0), guid(0, 0), false}, {guid(0, 0), guid(0, 1), true}, {guid(0, 0), guid(1, 0), true}, {guid(0, 0), guid(most, most), true},
		{guid(0, 0), guid(0, most), true}, {guid(0, 0), guid(most, 0), true},
		{guid(1, 1), guid(0, 0), false}, {guid(1, 1), guid(1, 1), false}, {guid(1, 1), guid(1, 0), false}, {guid(1, 1), guid(0, 9), false}, {guid(1, 1), guid(0, most), false},
		{guid(1, 1), guid(1, 2), true}, {guid(1, 1), guid(1, 9), true}, {guid(1, 9), guid(1, 10), true}, {guid(1, 10), guid(1, 9), false}, {guid(1, 1), guid(1, most), true},
		{guid(1, 5), guid(2, 0), true}, {guid(1, 5), guid(2, 1), true}, {guid(1, 5), guid(2, 5), true}, {guid(1, 5), guid(most, 0), true}, {guid(9, 1), guid(10, 0), true}, {guid(10, 0), guid(9, 1), false},
		{guid(2, 1), guid(1, 2), false}, {guid(2, 1), guid(1, most), false}, {guid(2, 0), guid(2, 1), true},
		{guid(0, 5), guid(0, 6), true}, {guid(0, 5), guid(0, 5), false}, {guid(0, 5), guid(0, 4), false}, {guid(0, 5), guid(1, 0), true},
		{guid(most, most), guid(most, most), false}, {guid(most, most), guid(0, 0), false}, {guid(most, most), guid(most, most-1), false}, {guid(most, most), guid(most-1, most), false},
		{guid(most, most-1), guid(most, most), true}, {guid(most-1, most), guid(most, 0), true}, {guid(most-1, most), guid(most, most), true}, {guid(1<<63, 0), guid(1<<63-1, most), false}, {guid(1<<63-1, most), guid(1<<63, 0), true},
		{guid(1, 1<<63-1), guid(1, 1<<63), true}, {guid(1, 1<<63), guid(1, 1<<63-1), false}, {guid(1<<32, 0), guid(1, 0), false}, {guid(1, 0), guid(1<<32, 0), true}, {guid(1<<32, 1), guid(1, 2), false},
	} {
		c := made(t, 1)
		var want []api.Guid
		if x.last != guid(0, 0) {
			snaps(t, c, x.last)
			want = append(want, x.last)
		}
		if !x.above {
			snapRefused(t, c, api.ErrArg, x.g)
			lists(t, "a guid that is not above", c, want...)
			continue
		}
		added := c.Copy()
		snaps(t, c, x.g)
		lists(t, "Snap", c, append(want, x.g)...)
		adds(t, added, x.g, "0a")
		lists(t, "Add", added, append(want, x.g)...)
	}
}

// P8.2: a guid has to be above the last snapshot's one, be that hidden, too, and not just be one that is not there.
func TestGuidsBetween(t *testing.T) {
	c := made(t, 1)
	for _, g := range []api.Guid{guid(1, 2), guid(1, 5), guid(3, 1)} {
		snaps(t, c, g)
	}
	is(t, "Hide", c.Hide(guid(3, 1)), api.OK)
	for _, g := range []api.Guid{guid(0, 0), guid(0, 9), guid(1, 1), guid(1, 2), guid(1, 3), guid(1, 5), guid(1, 9), guid(2, 7), guid(3, 0), guid(3, 1)} {
		snapRefused(t, c, api.ErrArg, g)
	}
	snaps(t, c, guid(3, 2))
}

// P8.2: a snapshot is the live volume, which stays as it is.
func TestSnap(t *testing.T) {
	c := made(t, 3)
	snaps(t, c, guid(1, 1))
	writes(t, c, "0a")
	snaps(t, c, guid(1, 2))
	lives(t, "Snap", c, "a  ")
	snaps(t, c, guid(1, 3))
	writes(t, c, "0b 2c")
	snaps(t, c, guid(2, 1))
	writes(t, c, "0 1d")
	reads(t, "1 1", c, guid(1, 1), "   ")
	reads(t, "1 2", c, guid(1, 2), "a  ")
	reads(t, "1 3", c, guid(1, 3), "a  ")
	reads(t, "2 1", c, guid(2, 1), "b c")
	lives(t, "written behind it", c, " dc")
	lists(t, "all", c, guid(1, 1), guid(1, 2), guid(1, 3), guid(2, 1))
}

// twenty answers a chain of as many snapshots, made by Snap and by Add in turns, and their guids.
func twenty(t *testing.T) (*Chain, []api.Guid) {
	t.Helper()
	c := made(t, 2)
	var l []api.Guid
	for n := range uint64(20) {
		g := guid(1+n/5, n)
		letter := string(rune('a' + n))
		if n%2 == 0 {
			writes(t, c, "0"+letter)
			snaps(t, c, g)
		} else {
			adds(t, c, g, "1"+letter)
		}
		l = append(l, g)
		lists(t, "up to twenty", c, l...)
	}
	return c, l
}

// P8.2, P8.3, R2: the twentieth and the twenty-first snapshot.
func TestLong(t *testing.T) {
	c, l := twenty(t)
	reads(t, "the twentieth", c, l[19], "st")
	differs(t, "the twentieth", c, 19, "1t")
	noChanges(t, "the twenty-first", c, 20)
	writes(t, c, "0X")
	for _, g := range []api.Guid{guid(4, 20), guid(5, 0), guid(5, 1), guid(math.MaxUint64, math.MaxUint64)} {
		snapRefused(t, c, api.ErrLong, g)
		for _, changes := range [][]api.Change{changesOf("0a"), changesOf("1a 0a"), changesOf("0a 0a"), changesOf("2a"), {{Block: 0, Data: "a"}}, {{Block: -1, Data: of("a")}}} {
			addRefused(t, c, api.ErrLong, g, changes)
		}
	}
	for _, g := range []api.Guid{guid(0, 0), guid(4, 19), guid(4, 18), guid(3, 99), guid(0, 99), l[0]} {
		snapRefused(t, c, api.ErrArg, g)
		addRefused(t, c, api.ErrArg, g, changesOf("1a 0a"))
	}
	// Hidden ones count, too.
	for _, g := range l {
		is(t, "Hide", c.Hide(g), api.OK)
	}
	snapRefused(t, c, api.ErrLong, guid(5, 0))
	lives(t, "all is refused", c, "Xt")

	is(t, "Rollback", c.Rollback(19), api.OK)
	adds(t, c, guid(4, 19), "0Y")
	snapRefused(t, c, api.ErrLong, guid(5, 0))
	is(t, "Rollback", c.Rollback(19), api.OK)
	snaps(t, c, guid(9, 9))
	snapRefused(t, c, api.ErrLong, guid(9, 10))
	lists(t, "the twentieth once more", c, append(slices.Clone(l[:19]), guid(9, 9))...)
}

// P8.2, P8.3: twenty by Snap alone, and by Add alone.
func TestTwentyAlike(t *testing.T) {
	for _, put := range []func(c *Chain, g api.Guid) api.Errno{
		func(c *Chain, g api.Guid) api.Errno { return c.Snap(g) },
		func(c *Chain, g api.Guid) api.Errno { return c.Add(g, nil) },
	} {
		c := made(t, 1)
		for n := range uint64(20) {
			is(t, "up to twenty", put(c, guid(1, n+1)), api.OK)
		}
		refused(t, "the twenty-first", c, api.ErrLong, func() api.Errno { return put(c, guid(1, 21)) })
		refused(t, "the twentieth once more", c, api.ErrArg, func() api.Errno { return put(c, guid(1, 20)) })
		if n := len(c.List()); n != 20 {
			t.Errorf("%d snapshots", n)
		}
	}
}

// P8.3: the base with the changes is the snapshot, and the live volume, whatever was written ahead.
func TestAdd(t *testing.T) {
	c := made(t, 3)
	writes(t, c, "0x 1x 2x")
	adds(t, c, guid(1, 1), "1a")
	reads(t, "of zeros", c, guid(1, 1), " a ")
	lives(t, "of zeros", c, " a ")

	writes(t, c, "0x 1x 2x")
	adds(t, c, guid(1, 2), "0b 2b")
	reads(t, "of a base", c, guid(1, 2), "bab")
	lives(t, "of a base", c, "bab")

	writes(t, c, "1x")
	adds(t, c, guid(1, 3), "")
	reads(t, "no changes", c, guid(1, 3), "bab")
	lives(t, "no changes", c, "bab")
	differs(t, "no changes", c, 2, "")

	adds(t, c, guid(1, 4), "0c 1 2b")
	reads(t, "all blocks", c, guid(1, 4), "c b")
	lives(t, "all blocks", c, "c b")
	differs(t, "a block that is the same is none", c, 3, "0c 1")

	// The live volume is another one than the snapshot from now on.
	writes(t, c, "2y")
	reads(t, "written behind it", c, guid(1, 4), "c b")
	snaps(t, c, guid(1, 5))
	adds(t, c, guid(1, 6), "0d")
	reads(t, "behind a Snap", c, guid(1, 6), "d y")
	for n, letters := range []string{" a ", "bab", "bab", "c b", "c y", "d y"} {
		reads(t, "all", c, guid(1, uint64(n+1)), letters)
	}
}

// P8.3: changes of each block alone, and of all, for each number of blocks.
func TestAddBlocks(t *testing.T) {
	for blocks := 1; blocks <= 8; blocks++ {
		c := made(t, blocks)
		letters := []byte(strings.Repeat(" ", blocks))
		var all []api.Change
		for block := range blocks {
			words := fmt.Sprintf("%dx", block)
			adds(t, c, guid(1, uint64(block+1)), words)
			letters[block] = 'x'
			lives(t, "Add", c, string(letters))
			differs(t, "Add", c, block, words)
			all = append(all, api.Change{Block: block, Data: of("y")})
		}
		is(t, "Add of all", c.Add(guid(2, 1), all), api.OK)
		reads(t, "Add of all", c, guid(2, 1), strings.Repeat("y", blocks))
		for _, block := range []int{math.MinInt, -256, -1, blocks, blocks + 1, 8, 9, 256, 1 << 32, 1<<32 + 7, math.MaxInt} {
			addRefused(t, c, api.ErrArg, guid(3, 1), []api.Change{{Block: block, Data: of("z")}})
			if block > 0 {
				addRefused(t, c, api.ErrArg, guid(3, 1), append(slices.Clone(all), api.Change{Block: block, Data: of("z")}))
			} else {
				addRefused(t, c, api.ErrArg, guid(3, 1), append([]api.Change{{Block: block, Data: of("z")}}, all...))
			}
		}
	}
}

// P8.3, R2: changes that may not be, wherever the wrong one stands; nothing is done then.
func TestAddRefused(t *testing.T) {
	c := made(t, 4)
	adds(t, c, guid(1, 1), "0a 3b")
	writes(t, c, "1x")
	for _, words := range []string{
		"1a 0a", "3a 2a", "0a 1a 3a 2a", "3a 2a 1a 0a", "0a 2a 1a", "1a 0a 2a",
		"0a 0a", "0a 0b", "3a 3a", "0a 1a 1a 2a", "0a 1a 2a 3a 3a", "0a 3a 0a", "0a 0a 0a 0a",
		"4a", "5a", "8a", "9a", "0a 4a", "0a 1a 2a 3a 4a", "0a 1a 2a 3a 4a 5a 6a 7a", "0a 1a 2a 3a 0a", "0a 1a 2a 3a 4a 5a 6a 7a 8a",
	} {
		addRefused(t, c, api.ErrArg, guid(1, 2), changesOf(words))
	}
	good := changesOf("0c 1c 2c 3c")
	for at := range good {
		for _, n := range []int{0, 1, 31, 33, 64, 1000} {
			l := slices.Clone(good)
			l[at].Data = strings.Repeat("c", n)
			addRefused(t, c, api.ErrArg, guid(1, 2), l)
			addRefused(t, c, api.ErrArg, guid(1, 2), l[at:])
			addRefused(t, c, api.ErrArg, guid(1, 2), l[:at+1])
		}
		for _, block := range []int{math.MinInt, -1, 4, math.MaxInt} {
			l := slices.Clone(good)
			l[at].Block = block
			addRefused(t, c, api.ErrArg, guid(1, 2), l)
			addRefused(t, c, api.ErrArg, guid(1, 2), l[:at+1])
		}
	}
	// More changes than blocks.
	for _, n := range []int{5, 9, 100} {
		addRefused(t, c, api.ErrArg, guid(1, 2), slices.Repeat(changesOf("0a 1a 2a 3a"), n)[:n])
		var rising []api.Change
		for block := range n {
			rising = append(rising, api.Change{Block: block, Data: of("a")})
		}
		addRefused(t, c, api.ErrArg, guid(1, 2), rising)
	}
	// A guid that may not be, beside changes that may not be, and that may.
	for _, g := range []api.Guid{guid(0, 0), guid(1, 1), guid(1, 0), guid(0, 7)} {
		addRefused(t, c, api.ErrArg, g, good)
		addRefused(t, c, api.ErrArg, g, changesOf("1a 0a"))
	}
	is(t, "Add", c.Add(guid(1, 2), good), api.OK)
	lives(t, "Add", c, "cccc")
}

// P8.3: how many stay, and that the live volume is the base then.
func TestRollback(t *testing.T) {
	made4 := func() *Chain {
		c := made(t, 2)
		for n, words := range []string{"0a", "1b", "0", "0c 1d"} {
			adds(t, c, guid(1, uint64(n+1)), words)
		}
		writes(t, c, "0x 1y")
		return c
	}
	images := []string{"  ", "a ", "ab", " b", "cd"}
	for n := range 5 {
		c := made4()
		is(t, "Rollback", c.Rollback(n), api.OK)
		lives(t, fmt.Sprintf("Rollback(%d)", n), c, images[n])
		lists(t, fmt.Sprintf("Rollback(%d)", n), c, []api.Guid{guid(1, 1), guid(1, 2), guid(1, 3), guid(1, 4)}[:n]...)
		for i := range 4 {
			g := guid(1, uint64(i+1))
			if i < n {
				reads(t, "it stays", c, g, images[i+1])
				continue
			}
			unread(t, "it is away", c, g, api.ErrNone)
			is(t, "Hide of what is away", c.Hide(g), api.ErrNone)
			noChanges(t, "it is away", c, i)
		}
		// Once more is the same; what was written is away again.
		writes(t, c, "0z")
		is(t, "Rollback once more", c.Rollback(n), api.OK)
		lives(t, "Rollback once more", c, images[n])
		refused(t, "Rollback of one more", c, api.ErrArg, func() api.Errno { return c.Rollback(n + 1) })
	}
	c := made4()
	for _, n := range []int{math.MinInt, -256, -4, -1, 5, 6, 20, 21, 256, 1 << 32, 1<<32 + 1, math.MaxInt} {
		refused(t, fmt.Sprintf("Rollback(%d)", n), c, api.ErrArg, func() api.Errno { return c.Rollback(n) })
	}
	lives(t, "what is refused", c, "xy")

	empty := made(t, 2)
	writes(t, empty, "1a")
	refused(t, "Rollback(1) of none", empty, api.ErrArg, func() api.Errno { return empty.Rollback(1) })
	refused(t, "Rollback(-1) of none", empty, api.ErrArg, func() api.Errno { return empty.Rollback(-1) })
	is(t, "Rollback(0) of none", empty.Rollback(0), api.OK)
	lives(t, "Rollback(0) of none", empty, "  ")
}

// P8.3: guids that were rolled back are taken again, and are other snapshots then.
func TestRollbackFreesGuids(t *testing.T) {
	c := made(t, 2)
	adds(t, c, guid(1, 1), "0a")
	adds(t, c, guid(1, 2), "0b")
	adds(t, c, guid(2, 1), "0c")
	is(t, "Hide", c.Hide(guid(1, 2)), api.OK)
	is(t, "Rollback", c.Rollback(1), api.OK)
	snapRefused(t, c, api.ErrArg, guid(1, 1))
	writes(t, c, "1d")
	snaps(t, c, guid(1, 2))
	reads(t, "it is not hidden, and another one", c, guid(1, 2), "ad")
	adds(t, c, guid(1, 3), "0")
	reads(t, "behind it", c, guid(1, 3), " d")
	unread(t, "it is away", c, guid(2, 1), api.ErrNone)
	lists(t, "behind a Rollback", c, guid(1, 1), guid(1, 2), guid(1, 3))
	is(t, "Rollback", c.Rollback(0), api.OK)
	snapRefused(t, c, api.ErrArg, guid(0, 0))
	snaps(t, c, guid(0, 1))
	lists(t, "behind a Rollback of all", c, guid(0, 1))
	reads(t, "behind a Rollback of all", c, guid(0, 1), "  ")
}

// P8.3: the base may be hidden, and stays so.
func TestRollbackToHidden(t *testing.T) {
	c := made(t, 2)
	adds(t, c, guid(1, 1), "0a")
	adds(t, c, guid(1, 2), "1b")
	is(t, "Hide", c.Hide(guid(1, 1)), api.OK)
	is(t, "Rollback", c.Rollback(1), api.OK)
	lives(t, "Rollback to a hidden one", c, "a ")
	lists(t, "Rollback to a hidden one", c, guid(1, 1))
	unread(t, "Rollback to a hidden one", c, guid(1, 1), api.ErrGone)
	is(t, "Hide once more", c.Hide(guid(1, 1)), api.ErrGone)
	snapRefused(t, c, api.ErrArg, guid(1, 1))
	adds(t, c, guid(1, 2), "1c")
	reads(t, "of a hidden base", c, guid(1, 2), "ac")
}

// P8.4: a hidden snapshot is not read any more, and all else is as it was.
func TestHide(t *testing.T) {
	c := made(t, 2)
	all := []api.Guid{guid(1, 1), guid(1, 2), guid(2, 1)}
	adds(t, c, all[0], "0a")
	adds(t, c, all[1], "1b")
	adds(t, c, all[2], "0c")
	writes(t, c, "1x")
	images := []string{"a ", "ab", "cb"}
	for _, g := range []api.Guid{guid(0, 0), guid(0, 1), guid(1, 0), guid(1, 3), guid(2, 0), guid(2, 2), guid(3, 1), guid(math.MaxUint64, math.MaxUint64), guid(1<<32+1, 1), guid(1, 1<<32+1)} {
		refused(t, fmt.Sprintf("Hide(%v)", g), c, api.ErrNone, func() api.Errno { return c.Hide(g) })
		unread(t, "there is none", c, g, api.ErrNone)
	}
	for i, at := range []int{1, 0, 2} {
		is(t, "Hide", c.Hide(all[at]), api.OK)
		unread(t, "it is hidden", c, all[at], api.ErrGone)
		refused(t, "Hide once more", c, api.ErrGone, func() api.Errno { return c.Hide(all[at]) })
		lists(t, "hidden ones, too", c, all...)
		lives(t, "Hide", c, "cx")
		for n, words := range []string{"0a", "1b", "0c"} {
			differs(t, "hidden ones, too", c, n, words)
		}
		for _, other := range []int{1, 0, 2}[i+1:] {
			reads(t, "the others", c, all[other], images[other])
		}
	}
	// The base is the last one, hidden or not.
	adds(t, c, guid(3, 1), "1d")
	reads(t, "of a hidden base", c, guid(3, 1), "cd")
	lives(t, "of a hidden base", c, "cd")
	differs(t, "of a hidden base", c, 3, "1d")
	is(t, "Rollback", c.Rollback(3), api.OK)
	lives(t, "Rollback to a hidden base", c, "cb")
	snaps(t, c, guid(3, 1))
	reads(t, "behind hidden ones", c, guid(3, 1), "cb")
}

// P8.4: what differs from the one ahead.
func TestChanges(t *testing.T) {
	c := made(t, 4)
	rows := []struct{ words, changes string }{
		{"", ""},            // zeros, as those ahead
		{"0a 3b", "0a 3b"},  // of zeros
		{"", ""},            // nothing differs
		{"0a 1c", "1c"},     // what is the same is no change
		{"0 3", "0 3"},      // back to zeros
		{"0a 3b", "0a 3b"},  // and as it was
		{"2\xff", "2\xff"},  // the greatest bytes
		{"0x 0a 1c 2", "2"}, // another one and back again
		{"0d 1e 2f 3g", "0d 1e 2f 3g"},
	}
	for n, x := range rows {
		writes(t, c, x.words)
		snaps(t, c, guid(1, uint64(n+1)))
		differs(t, "the newest one", c, n, x.changes)
	}
	is(t, "Hide", c.Hide(guid(1, 2)), api.OK)
	is(t, "Hide", c.Hide(guid(1, 5)), api.OK)
	writes(t, c, "0z 1z 2z 3z")
	for n, x := range rows {
		differs(t, "each one", c, n, x.changes)
	}
	for _, n := range []int{math.MinInt, -9, -1, 9, 10, 20, 256, 1 << 32, 1<<32 + 1, math.MaxInt} {
		noChanges(t, "there is none", c, n)
	}
}

// P8.4: a byte that differs is enough, wherever it is.
func TestChangesOfOneByte(t *testing.T) {
	for block := range 8 {
		for at := range 32 {
			c := made(t, 8)
			data := []byte(of("\x00"))
			data[at] = 1
			is(t, "Write", c.Write(block, string(data)), api.OK)
			snaps(t, c, guid(1, 1))
			data[at] = 0x81
			is(t, "Add", c.Add(guid(1, 2), []api.Change{{Block: block, Data: string(data)}}), api.OK)
			for n, b := range []byte{1, 0x81} {
				data[at] = b
				want := []api.Change{{Block: block, Data: string(data)}}
				if l, e := c.Changes(n); e != api.OK || !slices.Equal(l, want) {
					t.Errorf("Changes(%d): %s, %d, not %s", n, told(l), e, told(want))
				}
			}
		}
	}
}

// P8.1: a copy is the same, and each of the two goes its own way.
func TestCopy(t *testing.T) {
	ways := []func(c *Chain){
		func(c *Chain) { c.Write(0, of("z")) },
		func(c *Chain) { c.Snap(guid(7, 1)) },
		func(c *Chain) { c.Add(guid(7, 2), changesOf("1z")) },
		func(c *Chain) { c.Hide(guid(1, 1)) },
		func(c *Chain) { c.Hide(guid(1, 3)) },
		func(c *Chain) { c.Rollback(0) },
		func(c *Chain) { c.Rollback(1) },
		func(c *Chain) { c.Rollback(1); c.Snap(guid(8, 1)); c.Snap(guid(8, 2)) },
		func(c *Chain) { c.Rollback(2); c.Add(guid(9, 1), changesOf("0y")) },
		func(c *Chain) { c.Rollback(2); c.Snap(guid(9, 1)); c.Hide(guid(9, 1)) },
	}
	begun := func() *Chain {
		c := made(t, 2)
		for n, words := range []string{"0a", "1b", "0c"} {
			adds(t, c, guid(1, uint64(n+1)), words)
		}
		is(t, "Hide", c.Hide(guid(1, 2)), api.OK)
		writes(t, c, "1x")
		return c
	}
	// Each way by one side, then each way by the other one.
	for _, one := range ways {
		for _, other := range ways {
			oneAlone, otherAlone := begun(), begun()
			one(oneAlone)
			other(otherAlone)
			for turned := range 2 {
				first := begun()
				second := first.Copy()
				if first == second {
					t.Fatal("a copy is the chain itself")
				}
				if state(first) != state(second) {
					t.Fatalf("a copy of %s is %s", state(first), state(second))
				}
				if turned == 1 {
					first, second = second, first
				}
				was := state(second)
				one(first)
				if now := state(second); now != was {
					t.Errorf("what one side does makes %s of the other one, that was %s", now, was)
				}
				other(second)
				if state(first) != state(oneAlone) || state(second) != state(otherAlone) {
					t.Errorf("the sides are %s and %s, not %s and %s", state(first), state(second), state(oneAlone), state(otherAlone))
				}
			}
		}
	}
}

// P8.1: copies that are made again and again, of chains that are written in between, put their own snapshots behind.
func TestCopiesOfCopies(t *testing.T) {
	var all []*Chain
	c := made(t, 1)
	for n := range uint64(20) {
		its := c.Copy()
		writes(t, its, "0"+string(rune('A'+n)))
		snaps(t, its, guid(1, n+1))
		all = append(all, its)
		writes(t, c, "0"+string(rune('a'+n)))
		snaps(t, c, guid(1, n+1))
	}
	for n, its := range all {
		for i := range uint64(n) {
			reads(t, "both have it", its, guid(1, i+1), string(rune('a'+i)))
		}
		reads(t, "the copy's own one", its, guid(1, uint64(n+1)), string(rune('A'+n)))
		reads(t, "the chain's own one", c, guid(1, uint64(n+1)), string(rune('a'+n)))
		if len(its.List()) != n+1 {
			t.Errorf("%d snapshots, not %d", len(its.List()), n+1)
		}
	}
}

// R5: what was handed in is as it was and not kept, and what is answered is new.
func TestNothingKept(t *testing.T) {
	c := made(t, 2)
	handed := changesOf("0a 1b")
	is(t, "Add", c.Add(guid(1, 1), handed), api.OK)
	if !slices.Equal(handed, changesOf("0a 1b")) {
		t.Errorf("Add made %s of what was handed in", told(handed))
	}
	handed[0] = api.Change{Block: 1, Data: of("z")}
	handed[1].Data = of("z")
	adds(t, c, guid(1, 2), "0c")
	was := state(c)

	live, list := c.Live(), c.List()
	blocks, _ := c.Read(guid(1, 1))
	changes, _ := c.Changes(0)
	live[0], list[1], blocks[1] = of("z"), guid(9, 9), of("z")
	changes[0] = api.Change{Block: 7, Data: "z"}
	_ = append(live[:1], of("y"))
	_ = append(list[:1], guid(8, 8))
	_ = append(blocks[:0], of("y"))
	_ = append(changes[:1], api.Change{Block: 6})
	if now := state(c); now != was {
		t.Errorf("what is written into lists makes %s of %s", now, was)
	}
	// Nor do the answers share memory with each other.
	one, other := c.Live(), c.Live()
	one[0] = of("z")
	first, _ := c.Read(guid(1, 2))
	second, _ := c.Read(guid(1, 2))
	first[0] = of("z")
	if other[0] != of("c") || second[0] != of("c") {
		t.Error("two answers share memory")
	}
}

// R3: all calls of a chain that is none.
func TestNone(t *testing.T) {
	var c *Chain
	for range 2 {
		is(t, "Write", c.Write(0, of("a")), api.ErrNil)
		is(t, "Write of no block", c.Write(-1, ""), api.ErrNil)
		is(t, "Snap", c.Snap(guid(1, 1)), api.ErrNil)
		is(t, "Snap of none", c.Snap(guid(0, 0)), api.ErrNil)
		is(t, "Add", c.Add(guid(1, 1), changesOf("0a")), api.ErrNil)
		is(t, "Add of none", c.Add(guid(0, 0), changesOf("9a 0a")), api.ErrNil)
		is(t, "Rollback", c.Rollback(0), api.ErrNil)
		is(t, "Rollback(-1)", c.Rollback(-1), api.ErrNil)
		is(t, "Hide", c.Hide(guid(1, 1)), api.ErrNil)
		unread(t, "none", c, guid(1, 1), api.ErrNil)
		for n := -1; n < 2; n++ {
			if l, e := c.Changes(n); e != api.ErrNil || l != nil {
				t.Errorf("Changes(%d): %v, %d", n, l, e)
			}
		}
		if c.Live() != nil || c.List() != nil || c.Copy() != nil {
			t.Errorf("Live %v, List %v, Copy %v", c.Live(), c.List(), c.Copy())
		}
	}
}

// R1: one that New did not make has no blocks, and panics nowhere.
func TestWithoutNew(t *testing.T) {
	var c Chain
	lives(t, "no blocks", &c, "")
	is(t, "Write", c.Write(0, of("a")), api.ErrArg)
	addRefused(t, &c, api.ErrArg, guid(1, 1), changesOf("0a"))
	snaps(t, &c, guid(1, 1))
	adds(t, &c, guid(1, 2), "")
	reads(t, "no blocks", &c, guid(1, 2), "")
	differs(t, "no blocks", &c, 1, "")
	is(t, "Hide", c.Hide(guid(1, 1)), api.OK)
	is(t, "Rollback", c.Rollback(1), api.OK)
	lists(t, "no blocks", c.Copy(), guid(1, 1))
}

// draws answers a draw from 0 on, below what it is asked for, from a short rule, so that each run does the same.
func draws(seed uint64) func(n int) int {
	return func(n int) int {
		seed = seed*6364136223846793005 + 1442695040888963407
		return int(seed >> 33 % uint64(n))
	}
}

// plain is a chain as the chapter tells it, with all blocks as texts, and nothing shared.
type plain struct {
	live  []string
	snaps []plainSnap
}

type plainSnap struct {
	guid   api.Guid
	blocks []string
	hidden bool
}

func (p *plain) base() []string {
	if len(p.snaps) == 0 {
		return blocksOf(strings.Repeat(" ", len(p.live)))
	}
	return slices.Clone(p.snaps[len(p.snaps)-1].blocks)
}

func (p *plain) snap(g api.Guid, blocks []string) api.Errno {
	if g == guid(0, 0) {
		return api.ErrArg
	}
	if n := len(p.snaps); n > 0 {
		before := p.snaps[n-1].guid
		if g.Epoch < before.Epoch || g.Epoch == before.Epoch && g.Count <= before.Count {
			return api.ErrArg
		}
	}
	if len(p.snaps) >= 20 {
		return api.ErrLong
	}
	if blocks == nil {
		return api.ErrArg
	}
	p.snaps = append(p.snaps, plainSnap{guid: g, blocks: slices.Clone(blocks)})
	p.live = slices.Clone(blocks)
	return api.OK
}

// with answers the base with the changes; nil, if they may not be.
func (p *plain) with(changes []api.Change) []string {
	blocks := p.base()
	for i, x := range changes {
		if i > 0 && x.Block <= changes[i-1].Block || x.Block < 0 || x.Block >= len(blocks) || len(x.Data) != 32 {
			return nil
		}
		blocks[x.Block] = x.Data
	}
	return blocks
}

func (p *plain) rollback(n int) api.Errno {
	if n < 0 || n > len(p.snaps) {
		return api.ErrArg
	}
	p.snaps = p.snaps[:n]
	p.live = p.base()
	return api.OK
}

func (p *plain) hide(g api.Guid) api.Errno {
	for i := range p.snaps {
		if p.snaps[i].guid == g {
			if p.snaps[i].hidden {
				return api.ErrGone
			}
			p.snaps[i].hidden = true
			return api.OK
		}
	}
	return api.ErrNone
}

// state answers what state does of a chain that is the same.
func (p *plain) state() string {
	var b strings.Builder
	fmt.Fprintf(&b, "live %q;", p.live)
	ahead := blocksOf(strings.Repeat(" ", len(p.live)))
	for _, s := range p.snaps {
		blocks, e := s.blocks, api.OK
		if s.hidden {
			blocks, e = nil, api.ErrGone
		}
		var changes []api.Change
		for block, data := range s.blocks {
			if data != ahead[block] {
				changes = append(changes, api.Change{Block: block, Data: data})
			}
		}
		fmt.Fprintf(&b, " %v: %q %d, %s %d;", s.guid, blocks, e, told(changes), api.OK)
		ahead = s.blocks
	}
	return b.String()
}

// step does the same to both, as the draws say, and answers what, and the two errors.
func step(c *Chain, p *plain, draw func(n int) int) (string, api.Errno, api.Errno) {
	g := guid(uint64(draw(4)), uint64(draw(8)))
	if n := len(p.snaps); n > 0 && draw(3) > 0 {
		g = p.snaps[n-1].guid
		g.Count += uint64(draw(3))
	}
	data := func() string { return strings.Repeat([]string{"\x00", "a", "b"}[draw(3)], 32-draw(20)/19) }
	switch draw(9) {
	case 0, 1, 2:
		block, s := draw(len(p.live)+2)-1, data()
		e := api.ErrArg
		if block >= 0 && block < len(p.live) && len(s) == 32 {
			p.live[block] = s
			e = api.OK
		}
		return fmt.Sprintf("Write(%d, %q)", block, s), c.Write(block, s), e
	case 3, 4:
		return fmt.Sprintf("Snap(%v)", g), c.Snap(g), p.snap(g, p.live)
	case 5, 6:
		var changes []api.Change
		for block := range len(p.live) + draw(10)/9 {
			if draw(3) == 0 {
				changes = append(changes, api.Change{Block: block - draw(15)/14, Data: data()})
			}
		}
		return fmt.Sprintf("Add(%v, %s)", g, told(changes)), c.Add(g, changes), p.snap(g, p.with(changes))
	case 7:
		n := len(p.snaps) + 1 - draw(4)
		if draw(4) == 0 {
			n = draw(len(p.snaps) + 1)
		}
		return fmt.Sprintf("Rollback(%d)", n), c.Rollback(n), p.rollback(n)
	default:
		return fmt.Sprintf("Hide(%v)", g), c.Hide(g), p.hide(g)
	}
}

// P8.1 to P8.4: chains that do many things, held step by step against plain ones; and copies that were made on the way.
func TestManySteps(t *testing.T) {
	for seed := range uint64(60) {
		draw := draws(seed)
		blocks := 1 + draw(8)
		c, p := made(t, blocks), &plain{live: blocksOf(strings.Repeat(" ", blocks))}
		var copies []*Chain
		var were []string
		for n := range 300 {
			what, got, want := step(c, p, draw)
			is(t, what, got, want)
			if now := state(c); now != p.state() {
				t.Fatalf("%s: %s, not %s", what, now, p.state())
			}
			if n%40 == 0 {
				copies, were = append(copies, c.Copy()), append(were, state(c))
			}
		}
		for i, its := range copies {
			if state(its) != were[i] {
				t.Errorf("a copy of %s is %s", were[i], state(its))
			}
		}
	}
}

// P8.5: a snapshot's changes, put on a chain that has the same ones ahead, make the same snapshot.
func TestChangesMakeTheSame(t *testing.T) {
	for seed := range uint64(60) {
		draw := draws(seed + 1000)
		blocks := 1 + draw(8)
		c, p := made(t, blocks), &plain{live: blocksOf(strings.Repeat(" ", blocks))}
		for range 100 {
			step(c, p, draw)
		}
		its := made(t, blocks)
		for n, g := range c.List() {
			writes(t, its, "0!")
			changes, e := c.Changes(n)
			is(t, "Changes", e, api.OK)
			is(t, "Add", its.Add(g, changes), api.OK)
			again, _ := its.Changes(n)
			if !slices.Equal(changes, again) {
				t.Errorf("Changes(%d): %s, not %s", n, told(again), told(changes))
			}
			got, _ := its.Read(g)
			if !slices.Equal(got, p.snaps[n].blocks) || !slices.Equal(its.Live(), got) {
				t.Errorf("%v: %q, not %q", g, got, p.snaps[n].blocks)
			}
		}
		if !slices.Equal(its.List(), c.List()) {
			t.Errorf("%v, not %v", its.List(), c.List())
		}
	}
}

// P8.5: what is done to the live volume changes no snapshot.
func TestLiveChangesNoSnapshot(t *testing.T) {
	c, l := twenty(t)
	var were [][]string
	for _, g := range l {
		blocks, _ := c.Read(g)
		were = append(were, blocks)
	}
	for _, words := range []string{"0x", "1y", "0 1", "0z 1z"} {
		writes(t, c, words)
		for n, g := range l {
			if blocks, e := c.Read(g); e != api.OK || !slices.Equal(blocks, were[n]) {
				t.Errorf("%v: %q, %d, not %q", g, blocks, e, were[n])
			}
		}
	}
}

// FuzzChain holds a chain against a plain one, as the numbers say.
func FuzzChain(f *testing.F) {
	f.Add(2, []byte{0, 0, 0, 0, 1, 1, 3, 1, 0, 0, 5, 2, 1, 7})
	f.Add(8, []byte("snapshots with all their blocks"))
	f.Add(0, []byte{})
	f.Fuzz(func(t *testing.T, blocks int, numbers []byte) {
		c := New(blocks)
		if (c != nil) != (blocks >= 1 && blocks <= 8) {
			t.Fatalf("New(%d): %v", blocks, c != nil)
		}
		if c == nil {
			return
		}
		draw := func(n int) int {
			if len(numbers) == 0 {
				return 0
			}
			x := int(numbers[0]) % n
			numbers = numbers[1:]
			return x
		}
		p := &plain{live: blocksOf(strings.Repeat(" ", blocks))}
		numbers = numbers[:min(len(numbers), 1000)]
		for len(numbers) > 0 {
			what, got, want := step(c, p, draw)
			is(t, what, got, want)
			if now := state(c); now != p.state() {
				t.Fatalf("%s: %s, not %s", what, now, p.state())
			}
		}
	})
}

// What README.md says of the package.
func Example() {
	c := New(2)
	a, b := strings.Repeat("a", 32), strings.Repeat("b", 32)
	one, two := api.Guid{Epoch: 1, Count: 1}, api.Guid{Epoch: 1, Count: 2}
	fmt.Println(c.Write(0, a), c.Snap(one), c.Write(0, b), c.Snap(one))
	fmt.Println(c.Add(two, []api.Change{{Block: 1, Data: b}}))
	blocks, e := c.Read(two)
	fmt.Printf("%.1q %d; %.1q; %v\n", blocks, e, c.Live(), c.List())
	changes, e := c.Changes(1)
	fmt.Printf("%d %.1q %d\n", changes[0].Block, changes[0].Data, e)
	its := c.Copy()
	fmt.Println(c.Hide(one), c.Hide(one), c.Rollback(1))
	blocks, e = c.Read(one)
	fmt.Printf("%.1q %d; %.1q; %v\n", blocks, e, c.Live(), c.List())
	blocks, e = its.Read(one)
	fmt.Printf("%.1q %d; %.1q; %v\n", blocks, e, its.Live(), its.List())
	// Output:
	// stemma: 0 stemma: 0 stemma: 0 stemma: 2
	// stemma: 0
	// ["a" "b"] 0; ["a" "b"]; [{1 1} {1 2}]
	// 1 "b" 0
	// stemma: 0 stemma: 14 stemma: 0
	// [] 14; ["a" "\x00"]; [{1 1}]
	// ["a" "\x00"] 0; ["a" "b"]; [{1 1} {1 2}]
}
