package journal

import (
	"encoding/hex"
	"hash/crc32"
	"slices"
	"strings"
	"testing"
	"unsafe"

	"stemma/api"
	"stemma/disk"
	"stemma/frame"
	"stemma/wire"
)

// of answers a sector's bytes, all alike.
func of(letter string) string { return strings.Repeat(letter, 32) }

// w answers the write of a sector of letters.
func w(at int, letter string) api.Write { return api.Write{At: at, Data: of(letter)} }

// many answers n writes, from the sector at on.
func many(n, at int, letter string) []api.Write {
	var l []api.Write
	for i := range n {
		l = append(l, w(at+i, letter))
	}
	return l
}

// same asks that two answers are alike.
func same[T comparable](t *testing.T, what string, got, want T) {
	t.Helper()
	if got != want {
		t.Errorf("%s: %v, not %v", what, got, want)
	}
}

// made answers a disk, and asks that there is one.
func made(t *testing.T, sectors, room int) *disk.Disk {
	t.Helper()
	d := disk.New(sectors, room)
	if d == nil {
		t.Fatalf("New(%d, %d): none", sectors, room)
	}
	return d
}

// ready answers a disk with room, and a journal.
func ready(t *testing.T, sectors int) *disk.Disk {
	t.Helper()
	d := made(t, sectors, sectors)
	commits(t, "Format", Format(d))
	return d
}

// commits asks that something was done.
func commits(t *testing.T, what string, e api.Errno) {
	t.Helper()
	if e != api.OK {
		t.Fatalf("%s: %d", what, e)
	}
}

// reads asks that the sector at holds want.
func reads(t *testing.T, what string, d *disk.Disk, at int, want string) {
	t.Helper()
	if got, e := d.Read(at); got != want || e != api.OK {
		t.Errorf("%s: Read(%d): %q, %d, not %q", what, at, got, e, want)
	}
}

// sectorsFrom answers what is in all sectors of a disk from the sector at on.
func sectorsFrom(d *disk.Disk, at int) string {
	var b strings.Builder
	for i := at; i < d.Len(); i++ {
		data, _ := d.Read(i)
		b.WriteString(data)
	}
	return b.String()
}

// kept answers what is in the sectors that are kept.
func kept(d *disk.Disk) string { return sectorsFrom(d, 145) }

// woken answers a copy of a disk whose power goes and comes.
func woken(d *disk.Disk, keep []bool) *disk.Disk {
	c := d.Copy()
	c.Off()
	c.Wake(keep)
	return c
}

// every answers n choices, all alike.
func every(n int, stays bool) []bool { return slices.Repeat([]bool{stays}, n) }

// alike asks that two disks hold the same, whatever stays of what is unflushed.
func alike(t *testing.T, what string, a, b *disk.Disk) {
	t.Helper()
	same(t, what+": On", a.On(), b.On())
	same(t, what+": Used", a.Used(), b.Used())
	keeps := [][]bool{nil, every(300, true)}
	for i := range 12 {
		one := make([]bool, 12)
		one[i] = true
		keeps = append(keeps, one)
	}
	for _, keep := range keeps {
		if sectorsFrom(woken(a, keep), 0) != sectorsFrom(woken(b, keep), 0) {
			t.Errorf("%s: the sectors are others, where %v stays", what, keep)
			return
		}
	}
}

// call is one of the three, with what it is handed.
type call func(d *disk.Disk) api.Errno

// commit is the call of Commit.
func commit(l ...api.Write) call {
	return func(d *disk.Disk) api.Errno { return Commit(d, l) }
}

// idle asks that a call answers want, and does no operation and changes nothing.
func idle(t *testing.T, what string, d *disk.Disk, do call, want api.Errno) {
	t.Helper()
	c := d.Copy()
	if d.On() {
		// The power would go by any operation.
		c.Arm(1)
	}
	same(t, what, do(c), want)
	alike(t, what, c, d)
	if d.On() {
		same(t, what+": the fuse that is left", c.Flush(), api.ErrOff)
	}
}

// bytesOf reads digits, with blanks between them.
func bytesOf(t *testing.T, digits string) string {
	t.Helper()
	b, err := hex.DecodeString(strings.ReplaceAll(digits, " ", ""))
	if err != nil {
		t.Fatal(err)
	}
	return string(b)
}

// filled answers digits' bytes, and zeros up to a sector's end.
func filled(t *testing.T, digits string) string {
	t.Helper()
	s := bytesOf(t, digits)
	return s + strings.Repeat("\x00", 32-len(s))
}

// textOf answers a record's text, as the chapter's words tell it.
func textOf(l ...api.Write) string {
	s := wire.PutNum("", uint64(len(l)))
	for _, x := range l {
		s = wire.PutText(wire.PutNum(s, uint64(x.At)), x.Data)
	}
	return s
}

// sectorsOf answers a text's sectors.
func sectorsOf(t *testing.T, text string) []string {
	t.Helper()
	l, e := frame.Pack(text)
	commits(t, "Pack", e)
	return l
}

// heads answers the head that says so: the area and 1, and how many sectors.
func heads(area, count uint64) string {
	s := wire.PutNum(wire.PutNum("", area+1), count)
	return s + strings.Repeat("\x00", 32-len(s))
}

// laid answers a disk whose head tells of the sectors of text in that area; less is what the head says too few.
func laid(t *testing.T, sectors, area int, text string, less int) *disk.Disk {
	t.Helper()
	d := made(t, sectors, sectors)
	l := sectorsOf(t, text)
	for i, data := range l {
		commits(t, "Write", d.Write(1+72*area+i, data))
	}
	commits(t, "Write", d.Write(0, heads(uint64(area), uint64(len(l)-less))))
	commits(t, "Flush", d.Flush())
	return d
}

// P5.1 to P5.4: each row of the chapter's table, one behind the other.
func TestExamples(t *testing.T) {
	d := made(t, 150, 150)
	same(t, "Recover ahead of Format", Recover(d), api.ErrBroken)
	same(t, "Format", Format(d), api.OK)
	same(t, "Recover", Recover(d), api.OK)

	same(t, "Commit(145 a)", Commit(d, []api.Write{w(145, "a")}), api.OK)
	same(t, "Commit(145 b, 146 b)", Commit(d, []api.Write{w(145, "b"), w(146, "b")}), api.OK)
	reads(t, "row 2", d, 145, of("b"))

	same(t, "Commit(144 a)", Commit(d, []api.Write{w(144, "a")}), api.ErrArg)
	same(t, "Commit(150 a)", Commit(d, []api.Write{w(150, "a")}), api.ErrArg)
	same(t, "Commit(145 a, 145 b)", Commit(d, []api.Write{w(145, "a"), w(145, "b")}), api.ErrArg)
	same(t, "Commit(145, one letter)", Commit(d, []api.Write{{At: 145, Data: "a"}}), api.ErrArg)

	d.Arm(4)
	same(t, "Commit without power", Commit(d, []api.Write{w(145, "a")}), api.ErrOff)
	d.Wake(nil)
	same(t, "Recover", Recover(d), api.OK)
	reads(t, "row 4", d, 145, of("b"))
}

// P5.4: the third of the document's ten examples.
func TestExampleOfTheWhole(t *testing.T) {
	for _, x := range []struct {
		fuse int
		want string
	}{{4, "\x00"}, {6, "a"}} {
		d := ready(t, 146)
		d.Arm(x.fuse)
		same(t, "Commit", Commit(d, []api.Write{w(145, "a")}), api.ErrOff)
		d.Wake(nil)
		same(t, "Recover", Recover(d), api.OK)
		reads(t, "behind it", d, 145, of(x.want))
	}
}

// R1, R3: no disk, whatever else there is.
func TestNoDisk(t *testing.T) {
	same(t, "Format", Format(nil), api.ErrNil)
	same(t, "Format", Format(disk.New(0, 0)), api.ErrNil)
	for _, l := range [][]api.Write{nil, {}, {w(145, "a")}, {w(0, "a")}, {{}}, many(61, 145, "a")} {
		same(t, "Commit", Commit(nil, l), api.ErrNil)
	}
	same(t, "Recover", Recover(nil), api.ErrNil)
}

// A disk whose power is off, whatever else there is.
func TestNoPower(t *testing.T) {
	var disks []*disk.Disk
	for _, n := range []int{1, 145, 146, 300} {
		disks = append(disks, made(t, n, 0), made(t, n, n))
	}
	full := ready(t, 300)
	commits(t, "Commit", Commit(full, []api.Write{w(145, "a")}))
	commits(t, "Write", full.Write(146, of("b")))
	disks = append(disks, full, &disk.Disk{})
	for _, d := range disks {
		d.Off()
		idle(t, "Format", d, Format, api.ErrOff)
		idle(t, "Recover", d, Recover, api.ErrOff)
		for _, l := range [][]api.Write{nil, {}, {w(145, "a")}, {w(0, "a")}, {{}}, many(61, 145, "a")} {
			idle(t, "Commit", d, commit(l...), api.ErrOff)
		}
	}
}

// P5.1
func TestFormat(t *testing.T) {
	for _, x := range []struct {
		sectors, room int
		want          api.Errno
	}{
		{1, 1, api.ErrArg}, {1, 0, api.ErrArg}, {144, 144, api.ErrArg}, {145, 145, api.ErrArg}, {145, 0, api.ErrArg},
		{146, 0, api.ErrFull}, {300, 0, api.ErrFull}, {1024, 0, api.ErrFull},
		{146, 1, api.OK}, {146, 146, api.OK}, {1024, 1, api.OK}, {1024, 1024, api.OK},
	} {
		d := made(t, x.sectors, x.room)
		if x.want != api.OK {
			idle(t, "Format", d, Format, x.want)
			continue
		}
		same(t, "Format", Format(d), api.OK)
		want := made(t, x.sectors, x.room)
		commits(t, "Write", want.Write(0, filled(t, "01 01 00")))
		commits(t, "Flush", want.Flush())
		alike(t, "Format", d, want)
		idle(t, "Recover", d, Recover, api.OK)
	}
}

// P5.1: a journal that there is ends, and what is kept stays.
func TestFormatAgain(t *testing.T) {
	d := ready(t, 200)
	commits(t, "Commit", Commit(d, []api.Write{w(145, "a"), w(199, "b")}))
	was := kept(d)
	d.SetRoom(0)
	same(t, "Format", Format(d), api.OK)
	reads(t, "the head", woken(d, nil), 0, filled(t, "01 01 00"))
	same(t, "what is kept", kept(d), was)
	commits(t, "Write", d.Write(145, of("c")))
	idle(t, "Recover", d, Recover, api.OK)
	// Where the sector 0 was not written, another one's room is none for it.
	d = made(t, 146, 1)
	commits(t, "Write", d.Write(145, of("a")))
	idle(t, "Format", d, Format, api.ErrFull)
}

// steps asks that a call does those operations and no others, in that order: it does as many as the fuse lets it.
func steps(t *testing.T, what string, d *disk.Disk, do call, ops ...call) {
	t.Helper()
	for fuse := 1; fuse <= len(ops)+1; fuse++ {
		got, want := d.Copy(), d.Copy()
		got.Arm(fuse)
		e := do(got)
		for _, op := range ops[:fuse-1] {
			commits(t, what, op(want))
		}
		if fuse > len(ops) {
			same(t, what, e, api.OK)
			alike(t, what, got, want)
			same(t, what+": the fuse that is left", got.Flush(), api.ErrOff)
			continue
		}
		same(t, what, e, api.ErrOff)
		want.Off()
		alike(t, what+", cut short", got, want)
	}
}

// writes is an operation.
func writes(at int, data string) call {
	return func(d *disk.Disk) api.Errno { return d.Write(at, data) }
}

// flush is another one.
func flush(d *disk.Disk) api.Errno { return d.Flush() }

// P5.1 to P5.3: which operations there are, in their order.
func TestOperations(t *testing.T) {
	d := made(t, 300, 300)
	steps(t, "Format", d, Format, writes(0, filled(t, "01 01 00")), flush)
	commits(t, "Format", Format(d))
	steps(t, "Recover", d, Recover)
	steps(t, "Commit", d, commit())

	// 44 bytes: 2 for the length, 4 for the sum, 38 for the record.
	text := bytesOf(t, "01 01 01 91 01 20") + of("a")
	sum := crc32.ChecksumIEEE([]byte(text))
	bytes := string([]byte{0, 38, byte(sum >> 24), byte(sum >> 16), byte(sum >> 8), byte(sum)}) + text
	bytes += strings.Repeat("\x00", 64-len(bytes))
	steps(t, "Commit", d, commit(w(145, "a")),
		writes(73, bytes[:32]), writes(74, bytes[32:]), flush,
		writes(0, filled(t, "01 02 01 02")), flush,
		writes(145, of("a")), flush)
	commits(t, "Commit", Commit(d, []api.Write{w(145, "a")}))
	steps(t, "Recover", d, Recover, writes(145, of("a")), flush)

	// 116 bytes: 6 ahead of the record, and that one's 2 and 36 for each write, whose numbers need not rise.
	text = bytesOf(t, "01 03 02 01 2b 01 20") + of("b") + bytesOf(t, "01 92 01 20") + of("c") + bytesOf(t, "01 91 01 20") + of("\x00")
	l := sectorsOf(t, text)
	same(t, "sectors", len(l), 4)
	steps(t, "Commit", d, commit(w(299, "b"), w(146, "c"), w(145, "\x00")),
		writes(1, l[0]), writes(2, l[1]), writes(3, l[2]), writes(4, l[3]), flush,
		writes(0, filled(t, "01 01 01 04")), flush,
		writes(299, of("b")), writes(146, of("c")), writes(145, of("\x00")), flush)
	commits(t, "Commit", Commit(d, []api.Write{w(299, "b"), w(146, "c"), w(145, "\x00")}))
	steps(t, "Recover", d, Recover, writes(299, of("b")), writes(146, of("c")), writes(145, of("\x00")), flush)
	same(t, "Used", d.Used(), 1+2+4+3)
}

// P5.2: the area changes with each Commit that is done, and with no other.
func TestAreas(t *testing.T) {
	d := ready(t, 160)
	reads(t, "behind Format", d, 0, heads(0, 0))
	for i := range 7 {
		letter := string([]byte{byte('a' + i)})
		commits(t, "Commit", Commit(d, many(1+i, 145, letter)))
		l := sectorsOf(t, textOf(many(1+i, 145, letter)...))
		area := (i + 1) % 2
		reads(t, "behind a Commit", d, 0, heads(uint64(area), uint64(len(l))))
		for n, data := range l {
			reads(t, "the record", d, 1+72*area+n, data)
		}
		for _, refused := range []call{commit(), commit(w(1, "x")), Recover} {
			head, _ := d.Read(0)
			refused(d)
			reads(t, "behind none", d, 0, head)
		}
	}
}

// P5.2: how many writes there may be.
func TestHowMany(t *testing.T) {
	for _, x := range []struct {
		n    int
		want api.Errno
	}{{0, api.OK}, {61, api.ErrLong}, {62, api.ErrLong}, {5000, api.ErrLong}} {
		idle(t, "Commit", ready(t, 1024), commit(many(x.n, 145, "a")...), x.want)
		idle(t, "Commit on no journal", made(t, 1024, 0), commit(many(x.n, 145, "a")...), x.want)
	}
	// 60 take 70 sectors, 69 or 68, where all of their numbers have three bytes, half of them, or none.
	for _, x := range []struct {
		at    int
		count uint64
	}{{964, 70}, {226, 69}, {145, 68}} {
		d := ready(t, 1024)
		l := many(60, x.at, "a")
		same(t, "Commit of 60", Commit(d, l), api.OK)
		same(t, "Commit of 60", Commit(d, many(60, x.at, "b")), api.OK)
		same(t, "its sectors", x.count, uint64(len(sectorsOf(t, textOf(l...)))))
		reads(t, "its head", d, 0, heads(0, x.count))
		reads(t, "the first one", d, x.at, of("b"))
		reads(t, "the last one", d, x.at+59, of("b"))
		commits(t, "Write", d.Write(x.at+59, of("c")))
		commits(t, "Recover", Recover(d))
		reads(t, "the last one", d, x.at+59, of("b"))
	}
}

// bad are lists that are no Commit's, on a disk of 300 sectors.
func bad() [][]api.Write {
	return [][]api.Write{
		{w(144, "a")}, {w(1, "a")}, {w(0, "a")}, {w(-1, "a")}, {w(-1<<63, "a")},
		{w(300, "a")}, {w(301, "a")}, {w(1023, "a")}, {w(1024, "a")}, {w(1<<63-1, "a")}, {w(1<<32+145, "a")},
		{{At: 145}}, {{At: 145, Data: "a"}}, {{At: 145, Data: of("a")[1:]}}, {{At: 145, Data: of("a") + "a"}}, {{At: 145, Data: of("aa")}},
		{w(145, "a"), w(145, "a")}, {w(145, "a"), w(145, "b")}, {w(299, "a"), w(146, "b"), w(299, "c")}, append(many(59, 200, "a"), w(200, "b")),
		{w(145, "a"), w(144, "b")}, {w(145, "a"), w(300, "b")}, {w(145, "a"), {At: 146, Data: "b"}}, {w(144, "a"), w(145, "b")}, {{}},
		append(many(59, 200, "a"), w(1, "b")), append(many(59, 200, "a"), api.Write{At: 150, Data: of("b")[1:]}),
	}
}

// P5.2, P5.5
func TestCommitOfWhatMayNotBe(t *testing.T) {
	d := ready(t, 300)
	commits(t, "Commit", Commit(d, []api.Write{w(145, "x"), w(299, "y")}))
	commits(t, "Write", d.Write(150, of("u")))
	broken, full := made(t, 300, 300), d.Copy()
	full.SetRoom(0)
	for _, l := range bad() {
		idle(t, "Commit", d, commit(l...), api.ErrArg)
		// What may not be is told ahead of a head that is none, and of the room.
		idle(t, "Commit on no journal", broken, commit(l...), api.ErrArg)
		idle(t, "Commit without room", full, commit(l...), api.ErrArg)
		// And more than 60 ahead of what may not be.
		idle(t, "Commit of too many", d, commit(slices.Concat(l, many(60, 160, "b"))...), api.ErrLong)
	}
	// A disk without a sector that is kept.
	for _, n := range []int{1, 100, 145} {
		small := made(t, n, n)
		idle(t, "Commit on a small disk", small, commit(w(145, "a")), api.ErrArg)
		commits(t, "Write", small.Write(0, heads(0, 0)))
		idle(t, "Commit on a small disk", small, commit(w(145, "a")), api.ErrArg)
		idle(t, "Commit on a small disk", small, commit(), api.OK)
		idle(t, "Recover of a small disk", small, Recover, api.OK)
	}
}

// P5.2, P5.3: what is in the sector 0 is no head.
func TestNoHead(t *testing.T) {
	for _, digits := range []string{
		"", "00", "00 00 00", "00 01 00", "00 01 01", "00 01 02",
		// No area is before the first one, or behind the second one.
		"00 00", "01 03 00", "01 03 01 02", "01 ff 01 02", "02 01 00 00", "02 01 01 01 02", "02 01 02 01 02", "05 01 00 00 00 01 01 02", "05 01 00 00 00 02 01 02", "08 80 00 00 00 00 00 00 00 01 02", "08 80 00 00 00 00 00 00 01 01 02", "08 ff ff ff ff ff ff ff ff 01 02",
		// It says more sectors than an area has.
		"01 01 01 49", "01 02 01 49", "01 01 01 ff", "01 01 02 01 00", "01 02 02 01 02", "01 01 05 01 00 00 00 00", "01 02 05 01 00 00 00 02", "01 01 08 80 00 00 00 00 00 00 00", "01 02 08 80 00 00 00 00 00 00 02", "01 01 08 ff ff ff ff ff ff ff ff",
		// There is more behind the two numbers.
		"01 01 00 01", "01 01 00 00 01", "01 02 01 02 01", "01 01 01 02 01 02", "01 01 00" + strings.Repeat("00", 28) + "01", "01 02 01 02" + strings.Repeat("00", 27) + "80",
		// Three numbers: the area, 1, and how many.
		"00 01 01 00", "00 01 01 01 02", "00 01 01 01 49", "01 01 01 01 01 02",
		// They are no numbers' bytes.
		"01 00 00", "01 00 01 02", "02 00 01 00", "02 00 02 01 02", "01 01 01 00 01", "01 02 02 00 02", "01 01 09", "01 02 ff", "01 02 09 02", "09", "ff", "00 09", "09 01 01 02",
		strings.Repeat("01", 32), strings.Repeat("ff", 32), strings.Repeat("08", 32), "01 01 08" + strings.Repeat("ff", 8) + strings.Repeat("00", 20) + "07",
	} {
		d := made(t, 200, 200)
		for i, data := range sectorsOf(t, textOf(w(150, "a"))) {
			commits(t, "Write", d.Write(1+i, data))
			commits(t, "Write", d.Write(73+i, data))
		}
		commits(t, "Write", d.Write(0, filled(t, digits)))
		idle(t, "Commit: "+digits, d, commit(w(145, "a")), api.ErrBroken)
		idle(t, "Commit of none: "+digits, d, commit(), api.OK)
		idle(t, "Commit of 61: "+digits, d, commit(many(61, 145, "a")...), api.ErrLong)
		idle(t, "Recover: "+digits, d, Recover, api.ErrBroken)
		// It is told ahead of the room.
		d.SetRoom(0)
		idle(t, "Commit without room: "+digits, d, commit(w(145, "a")), api.ErrBroken)
	}
	// The sector 0 was not written, or was with zeros.
	d := made(t, 200, 200)
	idle(t, "Commit", d, commit(w(145, "a")), api.ErrBroken)
	idle(t, "Recover", d, Recover, api.ErrBroken)
	idle(t, "Commit", made(t, 200, 0), commit(w(145, "a")), api.ErrBroken)
}

// P5.2, P5.3: each head that may be; a Commit does not ask for the record that the head tells of.
func TestHeads(t *testing.T) {
	for area := range uint64(2) {
		for count := range uint64(73) {
			d := made(t, 200, 200)
			commits(t, "Write", d.Write(0, heads(area, count)))
			want := api.ErrBroken
			if count == 0 {
				want = api.OK
			}
			idle(t, "Recover", d, Recover, want)
			same(t, "Commit", Commit(d, []api.Write{w(145, "a")}), api.OK)
			reads(t, "another head", d, 0, heads(1-area, 2))
			reads(t, "what is kept", d, 145, of("a"))
		}
	}
}

// P5.2, P5.5: the room is asked for all together.
func TestRoom(t *testing.T) {
	for _, n := range []int{1, 2, 3, 10, 60} {
		l := many(n, 150, "a")
		count := len(sectorsOf(t, textOf(l...)))
		need := 1 + count + n
		d := made(t, 300, need-1)
		commits(t, "Format", Format(d))
		idle(t, "Commit", d, commit(l...), api.ErrFull)
		same(t, "without what it takes one behind the other", d.Used(), 1)
		d.SetRoom(need)
		same(t, "Commit", Commit(d, l), api.OK)
		same(t, "Used", d.Used(), need)
		// The other area has not been written yet.
		d.SetRoom(need + count - 1)
		idle(t, "Commit", d, commit(l...), api.ErrFull)
		d.SetRoom(0)
		idle(t, "Commit", d, commit(l...), api.ErrFull)
		d.SetRoom(need + count)
		same(t, "Commit", Commit(d, l), api.OK)
		// All has its room now.
		d.SetRoom(0)
		for range 3 {
			same(t, "Commit", Commit(d, l), api.OK)
		}
		idle(t, "Commit", d, commit(append(slices.Clone(l[1:]), w(299, "b"))...), api.ErrFull)
		same(t, "Recover", Recover(d), api.OK)
	}
	// What is written already takes none: of 73 to 75, 0, 299 and 200 the sectors 0, 299 and 74 are.
	d := made(t, 300, 5)
	commits(t, "Format", Format(d))
	commits(t, "Write", d.Write(299, of("x")))
	commits(t, "Write", d.Write(74, of("x")))
	l := []api.Write{w(299, "a"), w(200, "b")}
	same(t, "record", len(sectorsOf(t, textOf(l...))), 3)
	idle(t, "Commit", d, commit(l...), api.ErrFull)
	d.SetRoom(6)
	idle(t, "Commit of another one", d, commit(w(201, "a"), w(200, "b")), api.ErrFull)
	same(t, "Commit", Commit(d, l), api.OK)
	same(t, "Used", d.Used(), 6)
}

// P5.3: records that are none, or no Commit's.
func TestRecoverOfNoRecord(t *testing.T) {
	one := textOf(w(150, "a"))
	texts := map[string]string{
		"no bytes":          "",
		"no writes":         textOf(),
		"no writes, twice":  textOf() + textOf(),
		"61 writes":         textOf(many(61, 160, "a")...),
		"one too few":       "\x01\x02" + one[2:],
		"one too many":      "\x01\x01" + textOf(w(150, "a"), w(151, "b"))[2:],
		"none, and one":     "\x00" + one[2:],
		"more behind":       one + "\x00",
		"cut short":         one[:len(one)-1],
		"cut behind At":     one[:4],
		"its number alone":  one[:2],
		"no number":         "\x09" + one[2:],
		"another number":    "\x02\x00\x01" + one[2:],
		"very many":         "\x08\xff\xff\xff\xff\xff\xff\xff\xff" + one[2:],
		"2^63 many":         "\x08\x80\x00\x00\x00\x00\x00\x00\x01" + one[2:],
		"2^32 and one many": "\x05\x01\x00\x00\x00\x01" + one[2:],
		"At is 2^32 and so": "\x01\x01\x05\x01\x00\x00\x00\x96" + one[4:],
		"At is 2^63 and so": "\x01\x01\x08\x80\x00\x00\x00\x00\x00\x00\x96" + one[4:],
		"At is 2^64 - 1":    "\x01\x01\x08\xff\xff\xff\xff\xff\xff\xff\xff" + one[4:],
		"At is 2^64 - 150":  "\x01\x01\x08\xff\xff\xff\xff\xff\xff\xff\x6a" + one[4:],
		"a text, not bytes": "what is no record at all",
	}
	for _, l := range bad() {
		if !slices.ContainsFunc(l, func(x api.Write) bool { return x.At < 0 }) {
			texts["a bad list: "+textOf(l...)] = textOf(l...)
		}
	}
	for what, text := range texts {
		for area := range 2 {
			idle(t, "Recover: "+what, laid(t, 300, area, text, 0), Recover, api.ErrBroken)
		}
	}
	for area := range 2 {
		d := laid(t, 300, area, one, 0)
		same(t, "Recover", Recover(d), api.OK)
		reads(t, "Recover", d, 150, of("a"))
	}
}

// P5.3: the head says more sectors than the record has, or fewer; one of them is another one; they lie elsewhere.
func TestRecoverOfOtherSectors(t *testing.T) {
	l := []api.Write{w(145, "a"), w(299, "b"), w(200, "c")}
	for area := range 2 {
		for _, less := range []int{-60, -2, -1, 1, 2, 3} {
			idle(t, "another number of sectors", laid(t, 300, area, textOf(l...), less), Recover, api.ErrBroken)
		}
		first := 1 + 72*area
		for at := first; at < first+4; at++ {
			d := laid(t, 300, area, textOf(l...), 0)
			data, _ := d.Read(at)
			commits(t, "Write", d.Write(at, data[:31]+string([]byte{data[31] + 1})))
			idle(t, "another byte", d, Recover, api.ErrBroken)
			commits(t, "Write", d.Write(at, data))
			same(t, "as it was", Recover(d), api.OK)
		}
		d := laid(t, 300, area, textOf(l...), 0)
		commits(t, "Write", d.Write(0, heads(uint64(1-area), 4)))
		idle(t, "the other area", d, Recover, api.ErrBroken)
	}
}

// P5.3: the area's sectors, or those that the record writes, are not there.
func TestRecoverOfSmallDisks(t *testing.T) {
	for _, x := range []struct {
		sectors     int
		area, count uint64
	}{{1, 0, 1}, {1, 0, 72}, {1, 1, 1}, {2, 0, 2}, {10, 0, 72}, {73, 1, 1}, {74, 1, 2}, {100, 1, 72}} {
		d := made(t, x.sectors, x.sectors)
		commits(t, "Write", d.Write(0, heads(x.area, x.count)))
		idle(t, "Recover", d, Recover, api.ErrBroken)
	}
	for _, n := range []int{80, 100, 145} {
		idle(t, "Recover", laid(t, n, 0, textOf(w(145, "a")), 0), Recover, api.ErrBroken)
		idle(t, "Recover", laid(t, n, 1, textOf(w(145, "a")), 0), Recover, api.ErrBroken)
	}
	same(t, "Recover", Recover(laid(t, 146, 1, textOf(w(145, "a")), 0)), api.OK)
	// A record that ends with an area that ends with the disk.
	idle(t, "a disk whose last sector is not there", laid(t, 75, 1, textOf(w(145, "a")), 0), Recover, api.ErrBroken)
}

// P5.3: a record of all that a Commit may have; what Recover does stays, and may be done again.
func TestRecover(t *testing.T) {
	for _, l := range [][]api.Write{{w(145, "a")}, {w(1023, "a"), w(145, "\x00")}, many(60, 145, "a"), many(60, 964, "a")} {
		for area := range 2 {
			d := laid(t, 1024, area, textOf(l...), 0)
			head, _ := d.Read(0)
			for range 3 {
				same(t, "Recover", Recover(d), api.OK)
				behind := woken(d, nil)
				for _, x := range l {
					reads(t, "behind Recover", behind, x.At, x.Data)
				}
				reads(t, "its head", behind, 0, head)
			}
			same(t, "Used", d.Used(), 1+len(sectorsOf(t, textOf(l...)))+len(l))
		}
	}
}

// P5.3: the first error ends it, and what was written by then is.
func TestRecoverWithoutRoom(t *testing.T) {
	l := []api.Write{w(145, "a"), w(146, "b"), w(147, "c"), w(146+50, "d")}
	for n := range len(l) {
		d := laid(t, 300, 1, textOf(l...), 0)
		commits(t, "Write", d.Write(147, of("z")))
		commits(t, "Flush", d.Flush())
		d.SetRoom(d.Used() + n)
		want := d.Copy()
		e := api.OK
		for _, x := range l {
			if e == api.OK {
				e = want.Write(x.At, x.Data)
			}
		}
		if e == api.OK {
			e = want.Flush()
		}
		same(t, "Recover", Recover(d), e)
		same(t, "whether there is room", e == api.ErrFull, n < 3)
		alike(t, "Recover", d, want)
		d.SetRoom(300)
		same(t, "Recover with room", Recover(d), api.OK)
		reads(t, "all is written", d, 196, of("d"))
	}
}

// keeps are choices of what stays of n writes: none, all, each alone, all but each, and some mixed ones.
func keeps(n int) [][]bool {
	l := [][]bool{nil, every(n, true)}
	for i := range n {
		one, others := every(n, false), every(n, true)
		one[i], others[i] = true, false
		l = append(l, one, others)
	}
	seed := uint64(n)
	for range 6 {
		mixed := every(n, false)
		for i := range mixed {
			seed = seed*6364136223846793005 + 1442695040888963407
			mixed[i] = seed>>63 == 1
		}
		l = append(l, mixed)
	}
	return l
}

// settled recovers a disk whose power went, as its fuse and keep say, and once more; it asks that what is kept is one of two, and answers which.
func settled(t *testing.T, d *disk.Disk, keep []bool, fuse int, before, after string) string {
	t.Helper()
	d.Wake(keep)
	d.Arm(fuse)
	if e := Recover(d); !d.On() {
		same(t, "Recover", e, api.ErrOff)
		d.Wake(keep)
	}
	d.Arm(0)
	commits(t, "Recover", Recover(d))
	first := kept(d)
	if first != before && first != after {
		t.Fatalf("what is kept is neither as it was nor as it should be, where %v stays and the fuse of Recover is %d", keep, fuse)
	}
	commits(t, "Recover", Recover(d))
	same(t, "what is kept behind one more", kept(woken(d, nil)) == first, true)
	return first
}

// P5.4, W4: the power goes at each operation of a Commit, and of a Recover behind it, and anything stays.
func TestAllOrNothing(t *testing.T) {
	for _, x := range []struct {
		old, l []api.Write
	}{
		{nil, []api.Write{w(145, "a")}},
		{[]api.Write{w(145, "a"), w(146, "a")}, []api.Write{w(145, "b")}},
		{[]api.Write{w(145, "a"), w(147, "a")}, []api.Write{w(147, "b"), w(145, "b"), w(146, "b"), w(150, "b")}},
		{many(5, 146, "a"), append(many(3, 148, "c"), w(145, "\x00"))},
	} {
		d := ready(t, 151)
		commits(t, "Commit", Commit(d, []api.Write{w(150, "x"), w(149, "x")}))
		commits(t, "Commit", Commit(d, x.old))
		before := kept(d)
		all := d.Copy()
		commits(t, "Commit", Commit(all, x.l))
		after := kept(all)
		count := len(sectorsOf(t, textOf(x.l...)))
		last := count + len(x.l) + 4
		for fuse := 1; fuse <= last; fuse++ {
			for _, keep := range keeps(max(count, len(x.l))) {
				for again := range len(x.l) + 3 {
					c := d.Copy()
					c.Arm(fuse)
					same(t, "Commit", Commit(c, x.l), api.ErrOff)
					got := settled(t, c, keep, again, before, after)
					// Ahead of the head's write there is nothing, and behind its flush all.
					if fuse <= count+2 && got != before || fuse > count+3 && got != after {
						t.Fatalf("the wrong one of two: the fuse %d, of %d, of Recover %d", fuse, last, again)
					}
					// It goes on from either.
					commits(t, "Commit", Commit(c, []api.Write{w(148, "y")}))
					reads(t, "one more", woken(c, nil), 148, of("y"))
				}
			}
		}
		c := d.Copy()
		c.Arm(last + 1)
		same(t, "Commit", Commit(c, x.l), api.OK)
		same(t, "what is kept", settled(t, woken(c, nil), nil, 0, before, after), after)
	}
}

// P5.4: the greatest record.
func TestAllOrNothingOfMany(t *testing.T) {
	d := ready(t, 1024)
	commits(t, "Commit", Commit(d, many(60, 950, "a")))
	before := kept(d)
	l := many(60, 964, "b")
	all := d.Copy()
	commits(t, "Commit", Commit(all, l))
	after := kept(all)
	for fuse := 1; fuse <= 134; fuse++ {
		for i, keep := range [][]bool{nil, every(70, true), keeps(70)[2+fuse], keeps(70)[3+fuse], keeps(70)[143]} {
			c := d.Copy()
			c.Arm(fuse)
			same(t, "Commit", Commit(c, l), api.ErrOff)
			got := settled(t, c, keep, fuse%60+i, before, after)
			if fuse <= 72 && got != before || fuse > 73 && got != after {
				t.Fatalf("the wrong one of two: the fuse %d", fuse)
			}
		}
	}
	d.Arm(135)
	same(t, "Commit", Commit(d, l), api.OK)
	same(t, "the fuse that is left", d.Flush(), api.ErrOff)
}

// P5.4: Format, whose power goes.
func TestFormatWithoutPower(t *testing.T) {
	old := ready(t, 150)
	commits(t, "Commit", Commit(old, []api.Write{w(145, "a")}))
	was := kept(old)
	for _, x := range []struct {
		d    *disk.Disk
		lost api.Errno
	}{{made(t, 150, 150), api.ErrBroken}, {old, api.OK}} {
		for fuse := 1; fuse <= 2; fuse++ {
			for _, stays := range []bool{false, true} {
				c := x.d.Copy()
				c.Arm(fuse)
				same(t, "Format", Format(c), api.ErrOff)
				c.Wake([]bool{stays})
				want := x.lost
				if stays && fuse == 2 {
					want = api.OK
				}
				same(t, "Recover", Recover(c), want)
			}
		}
	}
	same(t, "what is kept", kept(old), was)
}

// R5: what is handed in is not changed, and not kept.
func TestWritesAreCopied(t *testing.T) {
	d := ready(t, 200)
	b := []byte(of("a"))
	l := []api.Write{{At: 199, Data: unsafe.String(&b[0], len(b))}, w(145, "b")}
	was := slices.Clone(l)
	same(t, "Commit", Commit(d, l), api.OK)
	same(t, "the writes are as they were", slices.Equal(l, was), true)
	copy(b, of("x"))
	l[1] = w(146, "y")
	reads(t, "what was handed in is another one now", d, 199, of("a"))
	commits(t, "Write", d.Write(199, of("z")))
	commits(t, "Recover", Recover(d))
	reads(t, "also behind a Recover", d, 199, of("a"))
	reads(t, "also behind a Recover", d, 146, of("\x00"))
}

// R6: the same again is the same.
func TestTheSameAgain(t *testing.T) {
	a, b := ready(t, 300), ready(t, 300)
	for i := range 5 {
		l := many(10*i+1, 150+i, "a")
		slices.Reverse(l)
		same(t, "Commit", Commit(a, l), Commit(b, l))
		alike(t, "two disks", a, b)
	}
}

// follow does what the bytes say with a disk, and asks that what is kept is as Commits make it, all or nothing.
func follow(t *testing.T, choices []byte) {
	take := func() int {
		if len(choices) == 0 {
			return 0
		}
		x := choices[0]
		choices = choices[1:]
		return int(x)
	}
	d := ready(t, 146+take()%60)
	for len(choices) > 0 {
		var l []api.Write
		next := d.Copy()
		for range 1 + take()%12 {
			at := 145 + take()%(d.Len()-145)
			x := w(at, string([]byte{byte(take())}))
			if !slices.ContainsFunc(l, func(y api.Write) bool { return y.At == at }) {
				l = append(l, x)
				commits(t, "Write", next.Write(at, x.Data))
			}
		}
		before, after := kept(d), kept(next)
		fuse := take() % 64
		d.Arm(fuse)
		e := Commit(d, l)
		if d.On() {
			same(t, "Commit", e, api.OK)
			d.Arm(0)
			same(t, "all", kept(d) == after, true)
			same(t, "all, and flushed", kept(woken(d, nil)) == after, true)
			continue
		}
		same(t, "Commit", e, api.ErrOff)
		for range take() % 3 {
			d.Wake(some(take))
			d.Arm(1 + take()%20)
			Recover(d)
			d.Off()
		}
		d.Wake(some(take))
		commits(t, "Recover", Recover(d))
		if got := kept(d); got != before && got != after {
			t.Fatalf("neither all nor nothing: the fuse %d", fuse)
		}
	}
}

// some answers choices of what stays.
func some(take func() int) []bool {
	l := make([]bool, take()%32)
	for i := range l {
		l[i] = take()%2 == 1
	}
	return l
}

// mixed answers n bytes that are well mixed, another lot for each seed.
func mixed(seed uint64, n int) []byte {
	b := make([]byte, n)
	for i := range b {
		seed = seed*6364136223846793005 + 1442695040888963407
		b[i] = byte(seed >> 56)
	}
	return b
}

// P5.2 to P5.5
func TestManyCommits(t *testing.T) {
	for seed := range uint64(200) {
		follow(t, mixed(seed, 600))
	}
}

// P5.2 to P5.5
func FuzzCommits(f *testing.F) {
	f.Add([]byte{})
	f.Add(mixed(7, 40))
	f.Add(mixed(8, 400))
	f.Fuzz(func(t *testing.T, choices []byte) {
		follow(t, choices[:min(len(choices), 1000)])
	})
}

// P5.3, R1: whatever lies on a disk, Recover ends, and changes nothing where it says that this can't be.
func FuzzRecover(f *testing.F) {
	f.Add(byte(0), byte(2), textOf(w(145, "a")))
	f.Add(byte(1), byte(3), textOf(w(145, "a"), w(160, "b")))
	f.Add(byte(1), byte(1), textOf())
	f.Fuzz(func(t *testing.T, area, count byte, text string) {
		l, e := frame.Pack(text[:min(len(text), 2200)])
		commits(t, "Pack", e)
		d := made(t, 161, 161)
		for i, data := range l {
			commits(t, "Write", d.Write(1+72*int(area%2)+i, data))
		}
		commits(t, "Write", d.Write(0, heads(uint64(area%3), uint64(count%80))))
		commits(t, "Flush", d.Flush())
		c := d.Copy()
		switch e := Recover(c); e {
		case api.OK:
			same(t, "what is not kept", sectorsFrom(c, 0)[:145*32] == sectorsFrom(d, 0)[:145*32], true)
		case api.ErrBroken:
			alike(t, "what is broken", c, d)
		default:
			t.Fatalf("Recover: %d", e)
		}
	})
}
