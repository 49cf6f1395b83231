package receive

import (
	"fmt"
	"math"
	"slices"
	"strconv"
	"strings"
	"testing"

	"stemma/api"
	"stemma/disk"
	"stemma/stream"
	"stemma/vault"
)

// of answers a block's bytes, all alike.
func of(letter string) string { return strings.Repeat(letter, 32) }

// guid answers the guid of that epoch and count.
func guid(epoch, count uint64) api.Guid { return api.Guid{Epoch: epoch, Count: count} }

var none, one, two, three = guid(0, 0), guid(1, 1), guid(1, 2), guid(1, 3)

// changesOf answers a change for each word: the block, and the letter of its data; without a letter it is zeros.
func changesOf(words string) []api.Change {
	var l []api.Change
	for _, w := range strings.Fields(words) {
		letter := w[1:]
		if letter == "" {
			letter = "\x00"
		}
		l = append(l, api.Change{Block: int(w[0] - '0'), Data: of(letter)})
	}
	return l
}

// part answers a part of the changes that make target of base.
func part(base, target api.Guid, from, all int, words string) api.Part {
	return api.Part{Base: base, Target: target, From: from, All: all, Changes: changesOf(words)}
}

// cuts answers all parts of the changes that make target of base.
func cuts(t *testing.T, base, target api.Guid, changes []api.Change) []api.Part {
	t.Helper()
	var l []api.Part
	for from := 0; from == 0 || from < len(changes); from += api.Chunk {
		p, e := stream.Cut(base, target, changes, from)
		is(t, "Cut", e, api.OK)
		l = append(l, p)
	}
	return l
}

// short answers data as a text: its letter, if all are alike.
func short(data string) string {
	if data != "" && data == of(data[:1]) {
		return fmt.Sprintf("%q", data[:1])
	}
	return fmt.Sprintf("%q", data)
}

// toldBlocks answers blocks as a text.
func toldBlocks(blocks []string) string {
	var b strings.Builder
	for _, data := range blocks {
		b.WriteString(short(data))
	}
	return b.String()
}

// toldChanges answers changes as a text.
func toldChanges(changes []api.Change) string {
	var b strings.Builder
	for _, c := range changes {
		fmt.Fprintf(&b, "[%d %s]", c.Block, short(c.Data))
	}
	return b.String()
}

// told answers a part as a text.
func told(p api.Part) string {
	return fmt.Sprintf("%v to %v, %d of %d: %s", p.Base, p.Target, p.From, p.All, toldChanges(p.Changes))
}

// asksFor answers what Asks does, as a text.
func asksFor(v *vault.Vault) string {
	length, last, target, next := Asks(v)
	return fmt.Sprint(length, last, target, next)
}

// seen answers all that is seen of a vault, but for where it lies, as a text.
func seen(v *vault.Vault) string {
	var b strings.Builder
	live, e := v.Live()
	fmt.Fprintf(&b, "%d blocks, live %s %d;", v.Blocks(), toldBlocks(live), e)
	for n, g := range v.List() {
		l, e := v.Read(g)
		changes, e2 := v.Changes(n)
		fmt.Fprintf(&b, " %v: %s %d, %s %d;", g, toldBlocks(l), e, toldChanges(changes), e2)
	}
	fmt.Fprintf(&b, " %d; asks %s", v.Token().All, asksFor(v))
	return b.String()
}

// state answers all that is seen of a vault, as a text.
func state(v *vault.Vault) string { return fmt.Sprintf("%s; %+v", seen(v), v.Token()) }

// sectorsOf answers all that is seen of a disk, as a text.
func sectorsOf(d *disk.Disk) string {
	var b strings.Builder
	fmt.Fprintf(&b, "%t %d %d;", d.On(), d.Len(), d.Used())
	b.Grow(40 * d.Len())
	for at := range d.Len() {
		data, e := d.Read(at)
		b.WriteString(strconv.Itoa(int(e)))
		b.WriteString(data)
	}
	return b.String()
}

// is asks that a call's error is that one.
func is(t *testing.T, what string, got, want api.Errno) {
	t.Helper()
	if got != want {
		t.Errorf("%s: %d, not %d", what, got, want)
	}
}

// asks asks what Asks answers.
func asks(t *testing.T, what string, v *vault.Vault, length int, last, target api.Guid, next int) {
	t.Helper()
	if got, want := asksFor(v), fmt.Sprint(length, last, target, next); got != want {
		t.Errorf("%s: Asks: %s, not %s", what, got, want)
	}
}

// blocksOf answers, as toldBlocks does, a block for each letter; a blank is zeros.
func blocksOf(letters string) string {
	want := ""
	for i := range letters {
		want += short(of(strings.ReplaceAll(letters[i:i+1], " ", "\x00")))
	}
	return want
}

// reads asks that the snapshot g has those blocks.
func reads(t *testing.T, what string, v *vault.Vault, g api.Guid, letters string) {
	t.Helper()
	if l, e := v.Read(g); e != api.OK || toldBlocks(l) != blocksOf(letters) {
		t.Errorf("%s: Read(%v): %s, %d, not %s", what, g, toldBlocks(l), e, letters)
	}
}

// shows asks that the live volume has those blocks.
func shows(t *testing.T, what string, v *vault.Vault, letters string) {
	t.Helper()
	if l, e := v.Live(); e != api.OK || toldBlocks(l) != blocksOf(letters) {
		t.Errorf("%s: the live volume is %s, %d, not %s", what, toldBlocks(l), e, letters)
	}
}

// opened answers the disk's vault, and asks that there is one.
func opened(t *testing.T, d *disk.Disk) *vault.Vault {
	t.Helper()
	v, e := vault.Open(d)
	if e != api.OK || v == nil {
		t.Fatalf("Open: %d", e)
	}
	return v
}

// made answers a vault of so many blocks on a disk of so many sectors, with room for all of them.
func made(t *testing.T, sectors, blocks int) (*disk.Disk, *vault.Vault) {
	t.Helper()
	d := disk.New(sectors, sectors)
	is(t, "Format", vault.Format(d, blocks), api.OK)
	return d, opened(t, d)
}

// tokenOf answers what is to be staged of a part that is taken.
func tokenOf(p api.Part) api.Token {
	return api.Token{Base: p.Base, Target: p.Target, Next: p.From + len(p.Changes), All: p.All}
}

// takes asks that the part is taken, and that vault and disk are then what Stage makes of them, also if the vault is opened anew.
func takes(t *testing.T, d *disk.Disk, v *vault.Vault, p api.Part) {
	t.Helper()
	was := told(p)
	other := d.Copy()
	its := opened(t, other)
	is(t, "Stage of "+was, its.Stage(tokenOf(p), p.Changes), api.OK)
	is(t, "Take of "+was, Take(v, p), api.OK)
	if sectorsOf(d) != sectorsOf(other) {
		t.Errorf("Take of %s: the disk is not what Stage makes of it", was)
	}
	want := state(its)
	if now := state(v); now != want {
		t.Errorf("Take of %s: the vault is\n%s, not\n%s", was, now, want)
	}
	if now := state(opened(t, d.Copy())); now != want {
		t.Errorf("Take of %s: opened anew the vault is\n%s, not\n%s", was, now, want)
	}
	if told(p) != was {
		t.Errorf("Take made %s of %s", told(p), was)
	}
}

// refuses asks that the part is refused for that error, and changes nothing, neither of the vault nor on the disk; and takes nothing from a fuse.
func refuses(t *testing.T, d *disk.Disk, v *vault.Vault, p api.Part, want api.Errno) {
	t.Helper()
	part, was, had := told(p), state(v), sectorsOf(d)
	d.Arm(1)
	is(t, "Take of "+part, Take(v, p), want)
	d.Arm(0)
	if now := state(v); now != was {
		t.Errorf("%s was refused, and made\n%s of\n%s", part, now, was)
	}
	if sectorsOf(d) != had {
		t.Errorf("%s was refused, and changed the disk", part)
	}
	if told(p) != part {
		t.Errorf("Take made %s of %s", told(p), part)
	}
}

// The chapter's table, row by row.
func TestExamples(t *testing.T) {
	d, v := made(t, 300, 4)
	p := part(none, one, 0, 3, "0a 1b")
	q := part(none, one, 2, 3, "2c")
	refuses(t, d, v, q, api.ErrOrder)
	takes(t, d, v, p)
	refuses(t, d, v, p, api.ErrOrder)
	asks(t, "row 1", v, 0, none, one, 2)

	takes(t, d, v, q)
	asks(t, "row 2", v, 1, one, none, 0)
	refuses(t, d, v, q, api.ErrBase)

	refuses(t, d, v, part(one, two, 0, 5, "0x"), api.ErrArg)
	refuses(t, d, v, part(one, two, 0, 1, "4x"), api.ErrArg)
	reads(t, "at the end", v, one, "abc ")
}

// The document's example of the whole.
func TestExampleOfTheWhole(t *testing.T) {
	d, v := made(t, 300, 8)
	l := cuts(t, none, one, changesOf("0a 3b 7c"))
	if len(l) != 2 {
		t.Fatalf("%d parts", len(l))
	}
	refuses(t, d, v, l[1], api.ErrOrder)
	takes(t, d, v, l[0])
	asks(t, "behind the first one", v, 0, none, one, 2)
	takes(t, d, v, l[1])
	reads(t, "behind the second one", v, one, "a  b   c")
}

// P12.1, P12.2, R3: no vault, one that Open did not make among them, with parts that may be, and others.
func TestNoVault(t *testing.T) {
	for what, v := range map[string]*vault.Vault{"nil": nil, "another one": {}} {
		for _, p := range []api.Part{
			part(none, one, 0, 0, ""),
			part(none, one, 0, 1, "0a"),
			part(one, two, 2, 3, "2c"),
			part(none, one, 0, 8, "0a 7h"),
			{},
			part(one, one, 0, 0, ""),
			part(none, one, -1, 9, "7a 0a 8a"),
		} {
			is(t, what+": Take of "+told(p), Take(v, p), api.ErrNil)
		}
		asks(t, what, v, 0, none, none, 0)
	}
}

// scene is a vault, and a part that it is asked to take.
type scene struct {
	d *disk.Disk
	v *vault.Vault
	p api.Part
}

// setting answers a vault of four blocks with so many snapshots, and of the next one a change of three; and the part that brings the others. Three sectors are free.
func setting(t *testing.T, snaps int) *scene {
	t.Helper()
	d, v := made(t, api.Data+5, 4)
	is(t, "Write", v.Write(0, of("x")), api.OK)
	for n := range snaps {
		is(t, "Snap", v.Snap(guid(1, uint64(1+n))), api.OK)
	}
	base, target := guid(1, uint64(snaps)), guid(1, uint64(snaps+1))
	is(t, "Take", Take(v, part(base, target, 0, 3, "0a")), api.OK)
	return &scene{d: d, v: v, p: part(base, target, 1, 3, "1b 2c")}
}

// fault is something for which a part is refused: the how manieth thing that is asked, and what of the scene it makes another one.
type fault struct {
	what  string
	rank  int
	makes string
	make  func(s *scene)
}

// errorOf answers the error of the how manieth thing that P12.1, and at its end P10.4, asks.
func errorOf(rank int) api.Errno {
	return []api.Errno{api.ErrNil, api.ErrArg, api.ErrBase, api.ErrArg, api.ErrOrder, api.ErrOff, api.ErrLong, api.ErrFull, api.OK}[rank]
}

// longs answers the rank of what is against one more snapshot behind so many.
func longs(snaps int) int {
	if snaps == api.MaxSnaps {
		return 6
	}
	return 8
}

// faults answers what may be wrong in a setting, of each rank but that of too many snapshots.
func faults(t *testing.T) []fault {
	changes := func(l ...api.Change) func(s *scene) { return func(s *scene) { s.p.Changes = l } }
	words := func(w string) func(s *scene) { return changes(changesOf(w)...) }
	base := func(g api.Guid) func(s *scene) { return func(s *scene) { s.p.Base = g } }
	target := func(g api.Guid) func(s *scene) { return func(s *scene) { s.p.Target = g } }
	from := func(n int) func(s *scene) { return func(s *scene) { s.p.From = n } }
	all := func(n int) func(s *scene) { return func(s *scene) { s.p.All = n } }
	return []fault{
		{"no vault", 0, "vault", func(s *scene) { s.v = nil }},
		{"Target is none", 1, "target", target(none)},
		{"Target is Base", 1, "target base", func(s *scene) { s.p.Target = s.p.Base }},
		{"From is below 0", 1, "from", from(-1)},
		{"From is far below 0", 1, "from", from(math.MinInt)},
		{"From is far above All", 1, "from", from(math.MaxInt)},
		{"From and the changes are above All", 1, "from all changes", all(2)},
		{"All is below 0", 1, "all", all(-1)},
		{"All is above 8", 1, "all", all(9)},
		{"All is far above 8", 1, "all", all(math.MaxInt)},
		{"three changes", 1, "changes", words("0a 1b 2c")},
		{"no changes", 1, "changes", words("")},
		{"a block twice", 1, "changes", words("2b 2c")},
		{"blocks that fall", 1, "changes", words("2c 1b")},
		{"a block above 7", 1, "changes", words("1b 8c")},
		{"a block below 0", 1, "changes", changes(api.Change{Block: -1, Data: of("b")})},
		{"data too short", 1, "changes", changes(api.Change{Block: 1, Data: of("b")[1:]})},
		{"data too long", 1, "changes", changes(api.Change{Block: 1, Data: of("b") + "b"})},
		{"Base is none", 2, "base", base(none)},
		{"Base is the first one", 2, "base", base(one)},
		{"Base is of an earlier epoch", 2, "base", base(guid(0, 9))},
		{"Base is what comes in part", 2, "base target", func(s *scene) { s.p.Base, s.p.Target = s.p.Target, guid(2, 1) }},
		{"Base is far above", 2, "base target", func(s *scene) { s.p.Base, s.p.Target = guid(8, 1), guid(8, 2) }},
		{"All is one more than there are blocks", 3, "all", all(5)},
		{"All is 8", 3, "all", all(8)},
		{"a block is one above", 3, "changes", words("1b 4c")},
		{"a block is 7", 3, "changes", words("0b 7c")},
		{"both blocks are above", 3, "changes", words("4b 7c")},
		{"the only block is above", 3, "changes", words("4b")},
		{"From is 0", 4, "from target all", from(0)},
		{"From is too far on", 4, "from changes", func(s *scene) { s.p.From, s.p.Changes = 2, changesOf("2c") }},
		{"Target is the one behind", 4, "target", func(s *scene) { s.p.Target.Count++ }},
		{"Target is of a later epoch", 4, "target", target(guid(2, 1))},
		{"All is another one", 4, "all", all(4)},
		{"the power is gone", 5, "power", func(s *scene) { s.d.Off() }},
		{"the vault is lost", 5, "power", func(s *scene) { s.d.Off(); s.v.Live(); s.d.Wake(nil) }},
		{"no room is left", 7, "room", func(s *scene) { s.d.SetRoom(0) }},
		{"no sector is free", 7, "room", func(s *scene) { fill(t, s.v, 3) }},
		{"one sector is free", 7, "room", func(s *scene) { fill(t, s.v, 2) }},
	}
}

// fill writes so many blocks of the live volume: each one takes a sector that is free.
func fill(t *testing.T, v *vault.Vault, blocks int) {
	t.Helper()
	for block := range blocks {
		is(t, "Write", v.Write(block, of("z")), api.OK)
	}
}

// shares tells whether both have a word in common.
func shares(a, b string) bool {
	words := strings.Fields(b)
	return slices.ContainsFunc(strings.Fields(a), func(w string) bool { return slices.Contains(words, w) })
}

// refusesScene asks that the scene's part is refused for that error, and that nothing is changed, as far as a vault without power tells.
func refusesScene(t *testing.T, what string, s *scene, want api.Errno) {
	t.Helper()
	seen := func() string {
		return fmt.Sprint(told(s.p), asksFor(s.v), s.v.List(), s.v.Token(), s.v.Blocks(), sectorsOf(s.d))
	}
	was := seen()
	is(t, what+": Take of "+told(s.p), Take(s.v, s.p), want)
	if seen() != was {
		t.Errorf("%s: Take of %s changed something", what, told(s.p))
	}
}

// P12.1, R2: each error in its turn, and each two of them at once: what is named first is the answer.
func TestEachErrorAndEachTwo(t *testing.T) {
	l := faults(t)
	for _, snaps := range []int{2, api.MaxSnaps} {
		for i, x := range l {
			s := setting(t, snaps)
			x.make(s)
			refusesScene(t, fmt.Sprintf("%d snapshots, %s", snaps, x.what), s, errorOf(min(x.rank, longs(snaps))))
			for _, y := range l[i+1:] {
				if shares(x.makes, y.makes) {
					continue
				}
				// What fills the disk needs power, so it is made ahead of the other one.
				s := setting(t, snaps)
				y.make(s)
				x.make(s)
				refusesScene(t, fmt.Sprintf("%d snapshots, %s, %s", snaps, x.what, y.what), s, errorOf(min(x.rank, y.rank, longs(snaps))))
			}
		}
	}
	s := setting(t, api.MaxSnaps)
	refusesScene(t, "too many snapshots", s, api.ErrLong)
	s = setting(t, 2)
	takes(t, s.d, s.v, s.p)
	reads(t, "no error", s.v, guid(1, 3), "abc ")
}

// aside answers a copy of the disk, and its vault.
func aside(t *testing.T, d *disk.Disk) (*disk.Disk, *vault.Vault) {
	t.Helper()
	its := d.Copy()
	return its, opened(t, its)
}

// P12.1: Base is the last snapshot's guid, hidden or not; zeros, if there is none.
func TestBase(t *testing.T) {
	most := uint64(math.MaxUint64)
	others := []api.Guid{none, one, two, guid(0, 1), guid(1, 0), guid(2, 1), guid(1, most), guid(most, 1)}
	try := func(d *disk.Disk, v *vault.Vault, last api.Guid) {
		t.Helper()
		for _, g := range others {
			if g == last {
				continue
			}
			for _, p := range []api.Part{
				part(g, guid(most, most), 0, 0, ""),
				part(g, guid(most, most), 0, 2, "0a 1b"),
				part(g, guid(most, most), 1, 2, "1b"),
			} {
				refuses(t, d, v, p, api.ErrBase)
			}
		}
		its, other := aside(t, d)
		takes(t, its, other, part(last, guid(most, most), 0, 2, "0a 1b"))
	}
	d, v := made(t, 300, 2)
	try(d, v, none)
	takes(t, d, v, part(none, one, 0, 1, "0a"))
	try(d, v, one)
	is(t, "Hide", v.Hide(one), api.OK)
	try(d, v, one)
	takes(t, d, v, part(one, two, 0, 1, "1b"))
	try(d, v, two)
	// What a hidden one has is there in the next one.
	reads(t, "behind a hidden one", v, two, "ab")
	takes(t, d, v, part(two, guid(2, 1), 0, 2, "0c"))
	try(d, v, two)
	is(t, "Rollback", v.Rollback(1), api.OK)
	try(d, v, one)
	is(t, "Rollback", v.Rollback(0), api.OK)
	try(d, v, none)
	takes(t, d, v, part(none, guid(0, 1), 0, 0, ""))
	try(d, v, guid(0, 1))
}

// P12.1: a Target that is not above the last guid: it is not above Base, or that is another one.
func TestTarget(t *testing.T) {
	most := uint64(math.MaxUint64)
	last := guid(5, 5)
	d, v := made(t, 300, 2)
	takes(t, d, v, part(none, last, 0, 1, "0a"))
	for _, g := range []api.Guid{none, one, guid(5, 4), last, guid(4, most)} {
		refuses(t, d, v, part(last, g, 0, 1, "0b"), api.ErrArg)
		refuses(t, d, v, part(last, g, 0, 0, ""), api.ErrArg)
		if g != none {
			refuses(t, d, v, part(none, g, 0, 1, "0b"), api.ErrBase)
		}
	}
	for _, g := range []api.Guid{guid(5, 6), guid(5, most), guid(6, 0), guid(most, 0), guid(most, most)} {
		for all := range 3 {
			its, other := aside(t, d)
			takes(t, its, other, part(last, g, 0, all, []string{"", "0b", "0b"}[all]))
		}
	}
}

// P12.1: All as many as the vault has blocks, and one more.
func TestAll(t *testing.T) {
	for _, blocks := range []int{1, 4, 8} {
		for all := range 11 {
			d, v := made(t, 300, blocks)
			p := part(none, one, 0, all, "0a")
			if all == 0 {
				p.Changes = nil
			}
			if all > blocks {
				refuses(t, d, v, p, api.ErrArg)
				continue
			}
			takes(t, d, v, p)
			if all > 1 {
				asks(t, "a part of more", v, 0, none, one, 1)
			} else {
				asks(t, "all", v, 1, one, none, 0)
			}
		}
	}
}

// P12.1: a block as high as the vault has, and one more; ahead of it another one, or none.
func TestBlock(t *testing.T) {
	for _, blocks := range []int{1, 4, 8} {
		d, _ := made(t, 300, blocks)
		for block := range 10 {
			try := func(all int, words string) {
				t.Helper()
				its, v := aside(t, d)
				if p := part(none, one, 0, all, words); block < blocks {
					takes(t, its, v, p)
				} else {
					refuses(t, its, v, p, api.ErrArg)
				}
			}
			try(1, fmt.Sprintf("%da", block))
			try(blocks, fmt.Sprintf("%d", block))
			if block > 0 && blocks > 1 {
				try(2, fmt.Sprintf("0a %db", block))
				try(blocks, fmt.Sprintf("%d %db", block-1, block))
			}
		}
	}
}

// started answers a vault of eight blocks with the snapshot 1.1, and of 1.3 two changes of five.
func started(t *testing.T) (*disk.Disk, *vault.Vault) {
	t.Helper()
	d, v := made(t, 300, 8)
	is(t, "Write", v.Write(7, of("x")), api.OK)
	is(t, "Snap", v.Snap(one), api.OK)
	takes(t, d, v, part(one, three, 0, 5, "0a 1b"))
	asks(t, "started", v, 1, one, three, 2)
	return d, v
}

// P12.1: a From of 0: with no token, with one of the same Base, Target and All, and with one of others.
func TestFromZero(t *testing.T) {
	d, v := started(t)
	for _, words := range []string{"0a 1b", "0a", "2c", "2c 3d", "7"} {
		refuses(t, d, v, part(one, three, 0, 5, words), api.ErrOrder)
	}
	for _, p := range []api.Part{
		part(one, two, 0, 5, "4c 6d"),
		part(one, guid(1, 4), 0, 5, "4c 6d"),
		part(one, guid(2, 0), 0, 5, "4c"),
		part(one, guid(2, 3), 0, 5, "4c"),
		part(one, three, 0, 4, "4c 6d"),
		part(one, three, 0, 6, "4c 6d"),
		part(one, three, 0, 8, "4c"),
		part(one, three, 0, 3, "4c"),
		part(one, two, 0, 4, "4c"),
	} {
		its, other := aside(t, d)
		takes(t, its, other, p)
		// The new one takes the place of the one that came: nothing of that is left.
		if k := other.Token(); k.Target != p.Target || k.All != p.All || k.Next != len(p.Changes) || k.Image[0] != 0 {
			t.Errorf("Take of %s: Token: %+v", told(p), k)
		}
		refuses(t, its, other, p, api.ErrOrder)
		refuses(t, its, other, part(one, three, 2, 5, "2c 3d"), api.ErrOrder)
		// And what came then is begun anew.
		takes(t, its, other, part(one, three, 0, 5, "0a 1b"))
		asks(t, "begun anew", other, 1, one, three, 2)
	}
	is(t, "Forget", v.Forget(), api.OK)
	takes(t, d, v, part(one, three, 0, 5, "0a 1b"))
}

// P12.1: a From of 0 that is all, beside a token: the snapshot is there at once, of its own changes alone.
func TestAllAtOnceBesideToken(t *testing.T) {
	d, _ := started(t)
	for _, p := range []api.Part{
		part(one, three, 0, 0, ""),
		part(one, two, 0, 0, ""),
		part(one, guid(9, 9), 0, 0, ""),
		part(one, three, 0, 1, "6c"),
		part(one, two, 0, 1, "6c"),
		part(one, three, 0, 2, "5 6c"),
		part(one, guid(9, 9), 0, 2, "5 6c"),
	} {
		its, v := aside(t, d)
		takes(t, its, v, p)
		asks(t, "all", v, 2, p.Target, none, 0)
		want := "       x"
		if p.All > 0 {
			want = "      cx"
		}
		reads(t, told(p), v, p.Target, want)
		refuses(t, its, v, p, api.ErrBase)
	}
}

// P12.1: a From above 0: with no token, with one that has another Target, All or Next, and with the one that it fits on.
func TestFromAboveZero(t *testing.T) {
	d, v := started(t)
	for from := 1; from <= 5; from++ {
		for _, words := range []string{"2c", "2c 3d", "0e", "6 7"} {
			p := part(one, three, from, 5, words)
			its, other := aside(t, d)
			switch {
			case from+len(p.Changes) > 5:
				refuses(t, its, other, p, api.ErrArg)
			case from != 2:
				refuses(t, its, other, p, api.ErrOrder)
			default:
				takes(t, its, other, p)
				asks(t, "it fits on", other, 1, one, three, 2+len(p.Changes))
			}
		}
	}
	for _, p := range []api.Part{
		part(one, two, 2, 5, "2c 3d"),
		part(one, guid(1, 4), 2, 5, "2c 3d"),
		part(one, guid(2, 3), 2, 5, "2c 3d"),
		part(one, three, 2, 4, "2c 3d"),
		part(one, three, 2, 3, "2c"),
		part(one, three, 2, 6, "2c 3d"),
		part(one, three, 2, 8, "2c 3d"),
	} {
		refuses(t, d, v, p, api.ErrOrder)
	}
	for _, base := range []api.Guid{none, two} {
		refuses(t, d, v, part(base, three, 2, 5, "2c 3d"), api.ErrBase)
	}
	is(t, "Forget", v.Forget(), api.OK)
	for from := 1; from <= 8; from++ {
		for all := from + 1; all <= 8; all++ {
			refuses(t, d, v, part(one, three, from, all, "7c"), api.ErrOrder)
		}
	}
	refuses(t, d, v, part(one, three, 2, 5, "2c 3d"), api.ErrOrder)
}

// P12.1: parts of no changes, of one and of two, up to the last one, that makes the snapshot; parts may be smaller than they could be.
func TestWholeSnapshots(t *testing.T) {
	d, v := made(t, 300, 8)
	takes(t, d, v, part(none, one, 0, 0, ""))
	reads(t, "no changes", v, one, "        ")
	asks(t, "no changes", v, 1, one, none, 0)
	last := one
	for bits := range 1 << 8 {
		its, other := aside(t, d)
		var words []string
		want := []byte("        ")
		for block := range 8 {
			if bits>>block&1 == 1 {
				words = append(words, fmt.Sprintf("%d%c", block, 'a'+block))
				want[block] = 'a' + byte(block)
			}
		}
		all := changesOf(strings.Join(words, " "))
		// One change at a time, two, and both by turns.
		for step := range 3 {
			target := guid(2, uint64(step))
			base := last
			if step > 0 {
				base = guid(2, uint64(step-1))
			}
			for from, n := 0, 0; n == 0 || from < len(all); n++ {
				size := []int{1, 2, 1 + n%2}[step]
				p := api.Part{Base: base, Target: target, From: from, All: len(all), Changes: all[from:min(from+size, len(all))]}
				takes(t, its, other, p)
				from += len(p.Changes)
				if from < len(all) {
					asks(t, "a part", other, 1+step, base, target, from)
				}
			}
			asks(t, "all", other, 2+step, target, none, 0)
			reads(t, fmt.Sprint(words), other, target, string(want))
		}
	}
}

// P12.1, P12.2: what came in part is not seen; the last part makes snapshot and live volume; what was written meanwhile is not in them.
func TestUnseenTillItIsWhole(t *testing.T) {
	d, v := made(t, 300, 3)
	is(t, "Write", v.Write(0, of("a")), api.OK)
	is(t, "Snap", v.Snap(one), api.OK)
	is(t, "Write", v.Write(2, of("l")), api.OK)
	shows(t, "ahead", v, "a l")
	seen := func() string {
		live, _ := v.Live()
		its, _ := v.Read(one)
		changes, _ := v.Changes(0)
		return toldBlocks(live) + toldBlocks(its) + toldChanges(changes) + fmt.Sprint(v.List())
	}
	was := seen()
	takes(t, d, v, part(one, two, 0, 3, "0"))
	takes(t, d, v, part(one, two, 1, 3, "1b"))
	if seen() != was {
		t.Errorf("what came in part is seen: %s, not %s", seen(), was)
	}
	takes(t, d, v, part(one, two, 2, 3, "1c"))
	reads(t, "all", v, one, "a  ")
	reads(t, "all", v, two, " c ")
	shows(t, "all", v, " c ")
}

// P12.1: no more than 20 snapshots: it is the last part that is refused, and what came stays.
func TestLong(t *testing.T) {
	d, v := made(t, 300, 4)
	base := none
	for n := range uint64(20) {
		takes(t, d, v, part(base, guid(1, 1+n), 0, 1, "0a"))
		base = guid(1, 1+n)
	}
	next := guid(2, 1)
	refuses(t, d, v, part(base, next, 0, 0, ""), api.ErrLong)
	refuses(t, d, v, part(base, next, 0, 1, "1b"), api.ErrLong)
	refuses(t, d, v, part(base, next, 0, 2, "1b 2c"), api.ErrLong)
	takes(t, d, v, part(base, next, 0, 3, "1b 2c"))
	asks(t, "a part", v, 20, base, next, 2)
	refuses(t, d, v, part(base, next, 2, 3, "3d"), api.ErrLong)
	refuses(t, d, v, part(base, guid(2, 2), 0, 0, ""), api.ErrLong)
	asks(t, "a part still", v, 20, base, next, 2)
	is(t, "Rollback", v.Rollback(19), api.OK)
	base = guid(1, 19)
	for _, p := range cuts(t, base, next, changesOf("1b 2c 3d")) {
		takes(t, d, v, p)
	}
	reads(t, "the last one", v, next, "abcd")
}

// P12.1, P10.6: a disk that is full, of sectors and of room: nothing is changed, and the part is taken when there is room.
func TestFull(t *testing.T) {
	d, v := made(t, api.Data+3, 4)
	takes(t, d, v, part(none, one, 0, 3, "0a 1b"))
	is(t, "Write", v.Write(3, of("x")), api.OK)
	p := part(none, one, 2, 3, "2c")
	refuses(t, d, v, p, api.ErrFull)
	asks(t, "no sector is free", v, 0, none, one, 2)
	refuses(t, d, v, part(none, two, 0, 3, "0d"), api.ErrFull)
	refuses(t, d, v, part(none, two, 0, 1, "0d"), api.ErrFull)
	// Zeros need no sector.
	its, other := aside(t, d)
	takes(t, its, other, part(none, one, 2, 3, "0"))
	reads(t, "zeros", other, one, " b  ")
	is(t, "Write", v.Write(3, of("\x00")), api.OK)
	refuses(t, d, v, part(none, two, 0, 2, "0d 1e"), api.ErrFull)
	takes(t, d, v, p)
	reads(t, "a sector is free", v, one, "abc ")

	d, v = made(t, 300, 4)
	takes(t, d, v, part(none, one, 0, 3, "0a 1b"))
	d.SetRoom(d.Used())
	refuses(t, d, v, p, api.ErrFull)
	refuses(t, d, v, part(none, two, 0, 1, "0d"), api.ErrFull)
	asks(t, "no room", v, 0, none, one, 2)
	d.SetRoom(300)
	takes(t, d, v, p)
	reads(t, "room", v, one, "abc ")
}

// P12.1: room that grows by one sector each time: a part is refused, till it is taken, and then all that Stage makes is there.
func TestRoomByRoom(t *testing.T) {
	d, _ := started(t)
	for _, p := range []api.Part{part(one, three, 2, 5, "2c 3d"), part(one, two, 0, 0, ""), part(one, two, 0, 2, "0x 1y")} {
		refused, taken := 0, 0
		for room := d.Used(); taken == 0 && room <= 300; room++ {
			its, v := aside(t, d)
			its.SetRoom(room)
			other := its.Copy()
			if e := opened(t, other).Stage(tokenOf(p), p.Changes); e != api.OK {
				is(t, "Stage", e, api.ErrFull)
				refuses(t, its, v, p, e)
				refused++
				continue
			}
			takes(t, its, v, p)
			taken++
		}
		if taken == 0 {
			t.Errorf("%s: there never is room", told(p))
		}
		if p.All > 0 && refused == 0 {
			t.Errorf("%s: there is room at once", told(p))
		}
	}
}

// lost asks that the vault is lost, and still refuses what it would refuse ahead of that; and that it tells what it knew.
func lost(t *testing.T, what string, d *disk.Disk, v *vault.Vault) {
	t.Helper()
	had := sectorsOf(d)
	for _, x := range []struct {
		p    api.Part
		want api.Errno
	}{
		{part(one, three, 2, 5, "2c 3d"), api.ErrOff},
		{part(one, three, 2, 5, "2c"), api.ErrOff},
		{part(one, two, 0, 0, ""), api.ErrOff},
		{part(one, two, 0, 1, "0x"), api.ErrOff},
		{part(one, three, 0, 5, "0a 1b"), api.ErrOrder},
		{part(one, three, 3, 5, "2c"), api.ErrOrder},
		{part(none, three, 2, 5, "2c 3d"), api.ErrBase},
		{part(one, one, 2, 5, "2c 3d"), api.ErrArg},
		{part(one, three, 2, 5, "2c 8d"), api.ErrArg},
		{api.Part{}, api.ErrArg},
	} {
		is(t, what+": Take of "+told(x.p), Take(v, x.p), x.want)
		asks(t, what, v, 1, one, three, 2)
	}
	if sectorsOf(d) != had {
		t.Errorf("%s: a vault that is lost changed its disk", what)
	}
}

// P12.1, P12.2: a vault whose disk has no power, and one that is lost; Open makes another one, that goes on.
func TestLost(t *testing.T) {
	d, v := started(t)
	d.Off()
	lost(t, "without power", d, v)
	d.Wake(nil)
	lost(t, "with power again", d, v)
	v = opened(t, d)
	asks(t, "opened", v, 1, one, three, 2)
	takes(t, d, v, part(one, three, 2, 5, "2c 3d"))
	takes(t, d, v, part(one, three, 4, 5, "4e"))
	reads(t, "opened", v, three, "abcde  x")
}

// P12.1: what is refused ahead of Stage asks for no power, and loses no vault.
func TestNotLost(t *testing.T) {
	d, v := started(t)
	d.Off()
	for _, p := range []api.Part{{}, part(none, three, 2, 5, "2c 3d"), part(one, three, 3, 5, "2c"), part(one, three, 0, 5, "0a")} {
		if e := Take(v, p); e == api.OK || e == api.ErrOff {
			t.Errorf("Take of %s: %d", told(p), e)
		}
	}
	asks(t, "without power", v, 1, one, three, 2)
	d.Wake(nil)
	takes(t, d, v, part(one, three, 2, 5, "2c 3d"))
}

// P12.2: what is asked for ahead of all, behind each part, behind the last one, and behind all else that a vault does.
func TestAsks(t *testing.T) {
	d, v := made(t, 300, 4)
	asks(t, "no snapshots", v, 0, none, none, 0)
	is(t, "Write", v.Write(0, of("w")), api.OK)
	asks(t, "behind Write", v, 0, none, none, 0)
	takes(t, d, v, part(none, one, 0, 4, "0a"))
	asks(t, "behind one change", v, 0, none, one, 1)
	takes(t, d, v, part(none, one, 1, 4, "1b 2c"))
	asks(t, "behind two more", v, 0, none, one, 3)
	is(t, "Write", v.Write(0, of("v")), api.OK)
	asks(t, "behind Write", v, 0, none, one, 3)
	takes(t, d, v, part(none, one, 3, 4, "3d"))
	asks(t, "behind the last one", v, 1, one, none, 0)
	is(t, "Hide", v.Hide(one), api.OK)
	asks(t, "behind Hide", v, 1, one, none, 0)
	takes(t, d, v, part(one, guid(2, 7), 0, 2, "1x"))
	asks(t, "behind a part", v, 1, one, guid(2, 7), 1)
	is(t, "Hide", v.Hide(one), api.ErrGone)
	asks(t, "behind what was refused", v, 1, one, guid(2, 7), 1)
	is(t, "Snap", v.Snap(two), api.OK)
	asks(t, "behind Snap", v, 2, two, none, 0)
	takes(t, d, v, part(two, three, 0, 2, "1x"))
	asks(t, "behind a part", v, 2, two, three, 1)
	is(t, "Forget", v.Forget(), api.OK)
	asks(t, "behind Forget", v, 2, two, none, 0)
	takes(t, d, v, part(two, three, 0, 2, "1x"))
	is(t, "Rollback", v.Rollback(2), api.OK)
	asks(t, "behind Rollback of none", v, 2, two, none, 0)
	takes(t, d, v, part(two, three, 0, 2, "1x"))
	is(t, "Rollback", v.Rollback(1), api.OK)
	asks(t, "behind Rollback", v, 1, one, none, 0)
	is(t, "Rollback", v.Rollback(0), api.OK)
	asks(t, "behind Rollback of all", v, 0, none, none, 0)
}

// R5: what is handed in is not kept; R6: the same calls answer the same.
func TestNothingIsKept(t *testing.T) {
	d, v := started(t)
	p := part(one, three, 2, 5, "2c 3d")
	takes(t, d, v, p)
	was, had := state(v), sectorsOf(d)
	p.Changes[0] = api.Change{Block: 6, Data: of("!")}
	_ = append(p.Changes[:1], api.Change{Block: 7, Data: of("!")})
	if state(v) != was || sectorsOf(d) != had {
		t.Errorf("what was handed in is kept: %s, not %s", state(v), was)
	}
	for range 3 {
		its, other := started(t)
		takes(t, its, other, part(one, three, 2, 5, "2c 3d"))
		if state(other) != was || sectorsOf(its) != had {
			t.Errorf("the same calls made %s, not %s", state(other), was)
		}
	}
}

// What README.md says of the package.
func Example() {
	a, b := strings.Repeat("a", 32), strings.Repeat("b", 32)
	zero, one, two := api.Guid{}, api.Guid{Epoch: 1, Count: 1}, api.Guid{Epoch: 1, Count: 2}
	d := disk.New(300, 300)
	fmt.Println(vault.Format(d, 4))
	v, e := vault.Open(d)
	fmt.Println(e)
	all := []api.Change{{Block: 0, Data: a}, {Block: 1, Data: b}, {Block: 3, Data: a}}
	p, e := stream.Cut(zero, one, all, 0)
	q, e2 := stream.Cut(zero, one, all, 2)
	fmt.Println(e, e2)
	fmt.Println(Take(v, q), Take(v, p), Take(v, p))
	fmt.Println(Asks(v))
	d.Off()
	fmt.Println(Take(v, q))
	d.Wake(nil)
	v, e = vault.Open(d)
	fmt.Println(e, Take(v, q))
	volume, e := v.Read(one)
	fmt.Printf("%.1q %d\n", volume, e)
	fmt.Println(Asks(v))
	fmt.Println(Take(v, q))
	p, e = stream.Cut(one, two, []api.Change{{Block: 4, Data: a}}, 0)
	fmt.Println(e, Take(v, p))
	// Output:
	// stemma: 0
	// stemma: 0
	// stemma: 0 stemma: 0
	// stemma: 10 stemma: 0 stemma: 10
	// 0 {0 0} {1 1} 2
	// stemma: 6
	// stemma: 0 stemma: 0
	// ["a" "b" "\x00" "a"] 0
	// 1 {1 1} {0 0} 0
	// stemma: 9
	// stemma: 0 stemma: 2
}
