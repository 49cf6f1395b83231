package vault

import (
	"fmt"
	"maps"
	"slices"
	"strconv"
	"strings"
	"testing"

	"stemma/api"
	"stemma/chain"
	"stemma/disk"
	"stemma/frame"
	"stemma/journal"
	"stemma/meta"
)

// of answers a block's bytes, all alike.
func of(letter string) string { return strings.Repeat(letter, 32) }

// guid answers the guid of that epoch and count.
func guid(epoch, count uint64) api.Guid { return api.Guid{Epoch: epoch, Count: count} }

// none is the guid of none.
var none = guid(0, 0)

// blocksOf answers a block for each letter; a blank is zeros.
func blocksOf(letters string) []string {
	l := make([]string, len(letters))
	for i := range l {
		l[i] = of(strings.ReplaceAll(letters[i:i+1], " ", "\x00"))
	}
	return l
}

// changesOf answers a change for each word: the block, and the letter of its data; without a letter it is zeros.
func changesOf(words string) []api.Change {
	var l []api.Change
	for _, w := range strings.Fields(words) {
		letter := w[1:]
		if letter == "" {
			letter = "\x00"
		}
		l = append(l, api.Change{Block: int(w[0] - '0'), Data: of(letter)})
	}
	return l
}

// short answers data as a text: its letter, if all are alike.
func short(data string) string {
	if data != "" && data == of(data[:1]) {
		return fmt.Sprintf("%q", data[:1])
	}
	return fmt.Sprintf("%q", data)
}

// told answers blocks as a text.
func told(blocks []string) string {
	var b strings.Builder
	for _, data := range blocks {
		b.WriteString(short(data))
	}
	return b.String()
}

// toldChanges answers changes as a text.
func toldChanges(changes []api.Change) string {
	var b strings.Builder
	for _, x := range changes {
		fmt.Fprintf(&b, "[%d %s]", x.Block, short(x.Data))
	}
	return b.String()
}

// state answers all that is seen of a vault, as a text.
func state(v *Vault) string {
	var b strings.Builder
	live, e := v.Live()
	fmt.Fprintf(&b, "%d blocks, live %s %d;", v.Blocks(), told(live), e)
	for n, g := range v.List() {
		l, e := v.Read(g)
		changes, e2 := v.Changes(n)
		fmt.Fprintf(&b, " %v: %s %d, %s %d;", g, told(l), e, toldChanges(changes), e2)
	}
	_, e = v.Read(none)
	_, before := v.Changes(-1)
	_, behind := v.Changes(len(v.List()))
	fmt.Fprintf(&b, " none: %d %d %d; %+v", e, before, behind, v.Token())
	return b.String()
}

// model is what a vault should be, told from the chapter alone: a chain for what is read, the volume that came in part, and the table and the sectors for where all of it lies.
type model struct {
	sectors int
	chain   *chain.Chain
	part    []string
	table   api.Meta
	data    map[int]string
}

// newModel answers that of a vault of so many blocks of zeros, on a disk of so many sectors.
func newModel(blocks, sectors int) *model {
	return &model{sectors: sectors, chain: chain.New(blocks), table: api.Meta{Live: make([]int, blocks)}, data: map[int]string{}}
}

// copy answers a model that is the same, and goes its own way.
func (m *model) copy() *model {
	return &model{sectors: m.sectors, chain: m.chain.Copy(), part: slices.Clone(m.part), table: clone(m.table), data: maps.Clone(m.data)}
}

// clone answers the same table in memory of its own.
func clone(m api.Meta) api.Meta {
	m.Live = slices.Clone(m.Live)
	m.Snaps = slices.Clone(m.Snaps)
	for i := range m.Snaps {
		m.Snaps[i].Image = slices.Clone(m.Snaps[i].Image)
	}
	m.Token.Image = slices.Clone(m.Token.Image)
	return m
}

// state answers what state does of a vault that is as it should be.
func (m *model) state() string {
	var b strings.Builder
	fmt.Fprintf(&b, "%d blocks, live %s %d;", len(m.table.Live), told(m.chain.Live()), api.OK)
	for n, g := range m.chain.List() {
		l, e := m.chain.Read(g)
		changes, e2 := m.chain.Changes(n)
		fmt.Fprintf(&b, " %v: %s %d, %s %d;", g, told(l), e, toldChanges(changes), e2)
	}
	fmt.Fprintf(&b, " none: %d %d %d; %+v", api.ErrNone, api.ErrNone, api.ErrNone, m.table.Token)
	return b.String()
}

// held answers the sectors that are in the table's images, and how often.
func (m *model) held() map[int]int {
	l := map[int]int{}
	images := [][]int{m.table.Live, m.table.Token.Image}
	for _, s := range m.table.Snaps {
		images = append(images, s.Image)
	}
	for _, image := range images {
		for _, at := range image {
			if at != 0 {
				l[at]++
			}
		}
	}
	return l
}

// last answers the last snapshot's guid, and its image and its blocks.
func (m *model) last() (api.Guid, []int, []string) {
	c := m.chain.Copy()
	l := c.List()
	c.Rollback(len(l))
	if len(l) == 0 {
		return none, make([]int, len(m.table.Live)), c.Live()
	}
	return l[len(l)-1], slices.Clone(m.table.Snaps[len(l)-1].Image), c.Live()
}

// place answers the sectors for the changes, and their writes; ErrFull, if there are not as many.
func (m *model) place(changes []api.Change) ([]int, []api.Write, api.Errno) {
	var places []int
	var writes []api.Write
	held, at := m.held(), 193
	for _, x := range changes {
		if x.Data == of("\x00") {
			places = append(places, 0)
			continue
		}
		for held[at] > 0 {
			at++
		}
		if at >= m.sectors {
			return nil, nil, api.ErrFull
		}
		places = append(places, at)
		writes = append(writes, api.Write{At: at, Data: x.Data})
		at++
	}
	return places, writes, api.OK
}

// deed is a call of a vault that changes something.
type deed struct {
	name    string // its first letter says which call it is
	block   int
	data    string
	g       api.Guid
	n       int
	token   api.Token
	changes []api.Change
}

func write(block int, letter string) deed { return deed{name: "Write", block: block, data: of(letter)} }
func snap(epoch, count uint64) deed       { return deed{name: "Snap", g: guid(epoch, count)} }
func rollback(n int) deed                 { return deed{name: "Rollback", n: n} }
func hide(epoch, count uint64) deed       { return deed{name: "Hide", g: guid(epoch, count)} }
func forget() deed                        { return deed{name: "Forget"} }

// stage answers the one of next changes of all, with the changes of the words.
func stage(base, target api.Guid, next, all int, words string) deed {
	return deed{name: "Stage", token: api.Token{Base: base, Target: target, Next: next, All: all}, changes: changesOf(words)}
}

// String tells the deed.
func (x deed) String() string {
	switch x.name {
	case "Write":
		return fmt.Sprintf("Write(%d, %s)", x.block, short(x.data))
	case "Snap", "Hide":
		return fmt.Sprintf("%s(%v)", x.name, x.g)
	case "Rollback":
		return fmt.Sprintf("Rollback(%d)", x.n)
	case "Stage":
		return fmt.Sprintf("Stage(%+v, %s)", x.token, toldChanges(x.changes))
	}
	return x.name
}

// do does it to a vault.
func (x deed) do(v *Vault) api.Errno {
	switch x.name {
	case "Write":
		return v.Write(x.block, x.data)
	case "Snap":
		return v.Snap(x.g)
	case "Rollback":
		return v.Rollback(x.n)
	case "Hide":
		return v.Hide(x.g)
	case "Stage":
		return v.Stage(x.token, x.changes)
	}
	return v.Forget()
}

// do does the deed to the model; it answers the writes of the blocks that are placed, and what the vault should answer, where there is room for all that is committed.
func (m *model) do(x deed) ([]api.Write, api.Errno) {
	next := m.copy()
	writes, e := next.try(x)
	if e != api.OK {
		return nil, e
	}
	*m = *next
	for _, w := range writes {
		m.data[w.At] = w.Data
	}
	return writes, api.OK
}

// try is do, that may leave the model in part behind an error.
func (m *model) try(x deed) ([]api.Write, api.Errno) {
	switch x.name {
	case "Write":
		if e := m.chain.Write(x.block, x.data); e != api.OK {
			return nil, e
		}
		places, writes, e := m.place([]api.Change{{Block: x.block, Data: x.data}})
		if e == api.OK {
			m.table.Live[x.block] = places[0]
		}
		return writes, e
	case "Snap":
		if e := m.chain.Snap(x.g); e != api.OK {
			return nil, e
		}
		m.table.Snaps = append(m.table.Snaps, api.Snap{Guid: x.g, Image: slices.Clone(m.table.Live)})
	case "Rollback":
		if e := m.chain.Rollback(x.n); e != api.OK {
			return nil, e
		}
		m.table.Snaps = m.table.Snaps[:x.n]
		_, m.table.Live, _ = m.last()
	case "Hide":
		e := m.chain.Hide(x.g)
		for i, s := range m.table.Snaps {
			m.table.Snaps[i].Hidden = s.Hidden || s.Guid == x.g
		}
		return nil, e
	case "Stage":
		return m.stage(x.token, x.changes)
	}
	m.table.Token, m.part = api.Token{}, nil
	return nil, api.OK
}

// mayStage tells whether such a token may come of such changes.
func (m *model) mayStage(k api.Token, changes []api.Change) bool {
	last, blocks := none, len(m.table.Live)
	if n := len(m.table.Snaps); n > 0 {
		last = m.table.Snaps[n-1].Guid
	}
	for i, x := range changes {
		if x.Block < 0 || x.Block >= blocks || len(x.Data) != 32 || i > 0 && changes[i-1].Block >= x.Block {
			return false
		}
	}
	above := k.Target.Epoch > last.Epoch || k.Target.Epoch == last.Epoch && k.Target.Count > last.Count
	numbers := k.All == 0 && k.Next == 0 || k.All >= 1 && k.All <= blocks && k.Next >= 1 && k.Next <= k.All
	return k.Base == last && above && numbers
}

// stage is Stage.
func (m *model) stage(k api.Token, changes []api.Change) ([]api.Write, api.Errno) {
	if !m.mayStage(k, changes) {
		return nil, api.ErrArg
	}
	if k.Next == k.All && len(m.table.Snaps) >= 20 {
		return nil, api.ErrLong
	}
	places, writes, e := m.place(changes)
	if e != api.OK {
		return nil, e
	}
	_, image, part := m.last()
	if now := m.table.Token; now.Base == k.Base && now.Target == k.Target && now.All == k.All {
		image, part = now.Image, m.part
	}
	for i, x := range changes {
		image[x.Block], part[x.Block] = places[i], x.Data
	}
	if k.Next < k.All {
		k.Image = image
		m.table.Token, m.part = k, part
		return writes, api.OK
	}
	var whole []api.Change
	for block, data := range part {
		whole = append(whole, api.Change{Block: block, Data: data})
	}
	if e := m.chain.Add(k.Target, whole); e != api.OK {
		panic("a chain refuses what may be staged")
	}
	m.table.Snaps = append(m.table.Snaps, api.Snap{Guid: k.Target, Image: slices.Clone(image)})
	m.table.Live, m.table.Token, m.part = slices.Clone(image), api.Token{}, nil
	return writes, api.OK
}

// textsSectors answers a table's sectors.
func textsSectors(t *testing.T, m api.Meta) []string {
	t.Helper()
	s, e := meta.Encode(m)
	if e != api.OK {
		t.Fatalf("Encode(%+v): %d", m, e)
	}
	l, e := frame.Pack(s)
	if e != api.OK {
		t.Fatalf("Pack of %+v: %d", m, e)
	}
	return l
}

// commits answers what is committed, so that the disk has the table, and the blocks with it.
func commits(t *testing.T, d *disk.Disk, m api.Meta, blocks []api.Write) []api.Write {
	t.Helper()
	var l []api.Write
	for i, data := range textsSectors(t, m) {
		if now, e := d.Read(145 + i); e != api.OK || now != data {
			l = append(l, api.Write{At: 145 + i, Data: data})
		}
	}
	return append(l, blocks...)
}

// tableOn answers the table that lies on the disk.
func tableOn(t *testing.T, d *disk.Disk) api.Meta {
	t.Helper()
	var sectors []string
	for at := 145; at < 193; at++ {
		data, e := d.Read(at)
		is(t, "Read of a table's sector", e, api.OK)
		sectors = append(sectors, data)
		if s, e := frame.Unpack(sectors); e == api.OK {
			m, e := meta.Decode(s)
			is(t, "Decode of the table", e, api.OK)
			return m
		}
	}
	t.Fatal("no text lies on the disk")
	return api.Meta{}
}

// is asks that a call's error is that one.
func is(t *testing.T, what string, got, want api.Errno) {
	t.Helper()
	if got != want {
		t.Errorf("%s: %d, not %d", what, got, want)
	}
}

// alike asks that the vault, and its disk, are as the model tells, also if the vault is opened anew.
func alike(t *testing.T, what string, d *disk.Disk, v *Vault, m *model) {
	t.Helper()
	if now, want := state(v), m.state(); now != want {
		t.Fatalf("%s: the vault is\n%s, not\n%s", what, now, want)
	}
	if on := tableOn(t, d); !meta.Same(on, m.table) {
		t.Fatalf("%s: the table is\n%+v, not\n%+v", what, on, m.table)
	}
	for at := range m.held() {
		if data, e := d.Read(at); e != api.OK || data != m.data[at] {
			t.Fatalf("%s: %s lies in %d, not %s", what, short(data), at, short(m.data[at]))
		}
	}
	if now, want := state(opened(t, d.Copy())), m.state(); now != want {
		t.Fatalf("%s: opened anew the vault is\n%s, not\n%s", what, now, want)
	}
}

// opened answers the disk's vault, and asks that there is one.
func opened(t *testing.T, d *disk.Disk) *Vault {
	t.Helper()
	v, e := Open(d)
	if e != api.OK || v == nil {
		t.Fatalf("Open: %d", e)
	}
	return v
}

// made answers a vault of so many blocks on a disk of so many sectors, with room for all of them, and its model, behind the deeds.
func made(t *testing.T, sectors, blocks int, deeds ...deed) (*disk.Disk, *Vault, *model) {
	t.Helper()
	d := disk.New(sectors, sectors)
	is(t, "Format", Format(d, blocks), api.OK)
	v, m := opened(t, d), newModel(blocks, sectors)
	alike(t, "Format", d, v, m)
	does(t, d, v, m, deeds...)
	return d, v, m
}

// does does the deeds to the vault and the model, asks that they answer OK, and that both are alike then.
func does(t *testing.T, d *disk.Disk, v *Vault, m *model, deeds ...deed) {
	t.Helper()
	for _, x := range deeds {
		_, e := m.do(x)
		is(t, x.String()+" of the model", e, api.OK)
		is(t, x.String(), x.do(v), e)
		alike(t, x.String(), d, v, m)
	}
}

// sectorsOf answers all that is seen of a disk, as a text.
func sectorsOf(d *disk.Disk) string {
	var b strings.Builder
	fmt.Fprintf(&b, "%t %d %d;", d.On(), d.Len(), d.Used())
	b.Grow(40 * d.Len())
	for at := range d.Len() {
		data, e := d.Read(at)
		b.WriteString(strconv.Itoa(int(e)))
		b.WriteString(data)
	}
	return b.String()
}

// refuses asks that the deed answers that error, and changes nothing, neither of the vault nor on the disk; and takes nothing from a fuse.
func refuses(t *testing.T, d *disk.Disk, v *Vault, x deed, want api.Errno) {
	t.Helper()
	handed, token := slices.Clone(x.changes), slices.Clone(x.token.Image)
	was, had := state(v), sectorsOf(d)
	d.Arm(1)
	is(t, x.String(), x.do(v), want)
	d.Arm(0)
	if now := state(v); now != was {
		t.Errorf("%v was refused, and made\n%s of\n%s", x, now, was)
	}
	if sectorsOf(d) != had {
		t.Errorf("%v was refused, and changed the disk", x)
	}
	if !slices.Equal(handed, x.changes) || !slices.Equal(token, x.token.Image) {
		t.Errorf("%v changed what it was handed", x)
	}
}

// draws answers a draw from 0 on, below what it is asked for, from a short rule, so that each run does the same.
func draws(seed uint64) func(n int) int {
	x := seed*0x9e3779b97f4a7c15 + 0x1234567
	return func(n int) int {
		x = x*6364136223846793005 + 1442695040888963407
		return int((x >> 33) % uint64(n))
	}
}

// drawn answers a deed that the model mostly takes.
func drawn(m *model, draw func(n int) int) deed {
	blocks := len(m.table.Live)
	last, _, _ := m.last()
	above := guid(last.Epoch, last.Count+1)
	if draw(4) == 0 {
		above = guid(last.Epoch+uint64(draw(2)), uint64(draw(6)))
	}
	data := func() string {
		return strings.Repeat([]string{"\x00", "a", "b", "c"}[draw(4)], 32-draw(40)/39)
	}
	switch draw(12) {
	case 0, 1, 2, 3:
		return deed{name: "Write", block: draw(blocks*10+2)/10 - draw(20)/19, data: data()}
	case 4, 5:
		return deed{name: "Snap", g: above}
	case 6:
		n := len(m.table.Snaps) + 1 - draw(4)
		if draw(5) == 0 {
			n = draw(len(m.table.Snaps) + 1)
		}
		return deed{name: "Rollback", n: n}
	case 7:
		g := above
		if n := len(m.table.Snaps); n > 0 && draw(4) > 0 {
			g = m.table.Snaps[draw(n)].Guid
		}
		return deed{name: "Hide", g: g}
	case 8:
		return deed{name: "Forget"}
	}
	return drawnStage(m, draw, last, above, data)
}

// drawnStage answers a Stage, that often goes on with what came in part.
func drawnStage(m *model, draw func(n int) int, last, above api.Guid, data func() string) deed {
	blocks := len(m.table.Live)
	k := m.table.Token
	if k.Target == none || draw(4) == 0 {
		k = api.Token{Base: last, Target: above, All: draw(blocks + 1)}
	}
	k.Next = min(k.All, k.Next+1+draw(3))
	k.Image = []int{draw(300)}
	if draw(20) == 0 {
		k.Next += draw(3) - 1
	}
	x := deed{name: "Stage", token: k}
	for block := range blocks + draw(10)/9 {
		if draw(3) == 0 {
			x.changes = append(x.changes, api.Change{Block: block - draw(25)/24, Data: data()})
		}
	}
	return x
}

// P10.2 to P10.4, P10.6: vaults that many calls are made of, each held against a chain, and a table, that the same was done to; also when they are opened anew.
func TestManyCalls(t *testing.T) {
	found := map[api.Errno]int{}
	for seed := range uint64(40) {
		draw := draws(seed)
		// Few sectors, so that there often are not as many free ones as are wanted.
		sectors := 193 + draw(40)
		blocks := 1 + draw(8)
		d, v, m := made(t, sectors, blocks)
		for range 150 {
			x := drawn(m, draw)
			was := m.copy()
			writes, want := m.do(x)
			found[want]++
			if want != api.OK {
				refuses(t, d, v, x, want)
				continue
			}
			committed := d.Copy()
			is(t, "Commit", journal.Commit(committed, commits(t, d, m.table, writes)), api.OK)
			is(t, x.String(), x.do(v), api.OK)
			alike(t, fmt.Sprintf("%v behind %s", x, was.state()), d, v, m)
			if sectorsOf(d) != sectorsOf(committed) {
				t.Fatalf("%v: the disk is not what one Commit makes of it", x)
			}
			if draw(8) == 0 {
				v = opened(t, d)
			}
		}
	}
	for _, e := range []api.Errno{api.OK, api.ErrArg, api.ErrLong, api.ErrNone, api.ErrFull, api.ErrGone} {
		if found[e] < 5 {
			t.Errorf("the draws say little: %v", found)
		}
	}
}

// FuzzVault holds a vault against its model, as the numbers say.
func FuzzVault(f *testing.F) {
	f.Add(20, 2, []byte{0, 0, 0, 0, 1, 1, 3, 1, 0, 0, 5, 2, 1, 7})
	f.Add(100, 8, []byte("a chain on a disk, that is as it was ahead of a change, or behind it"))
	f.Add(0, 1, []byte{})
	f.Fuzz(func(t *testing.T, more, blocks int, numbers []byte) {
		if more < 0 || more > 831 || blocks < 1 || blocks > 8 {
			return
		}
		draw := func(n int) int {
			if len(numbers) == 0 {
				return 0
			}
			x := int(numbers[0]) % n
			numbers = numbers[1:]
			return x
		}
		d, v, m := made(t, 193+more, blocks)
		numbers = numbers[:min(len(numbers), 1000)]
		for len(numbers) > 0 {
			x := drawn(m, draw)
			if _, want := m.do(x); want != api.OK {
				refuses(t, d, v, x, want)
				continue
			}
			is(t, x.String(), x.do(v), api.OK)
			alike(t, x.String(), d, v, m)
		}
	})
}
