package receive

import (
	"fmt"
	"maps"
	"slices"
	"strings"
	"testing"

	"stemma/api"
	"stemma/chain"
	"stemma/disk"
	"stemma/stream"
	"stemma/vault"
)

// model is what a vault that takes parts should be, told from the chapters alone: a chain for what is read, and of what came in part its token, without an image, and its changes.
type model struct {
	blocks int
	chain  *chain.Chain
	token  api.Token
	came   map[int]string
}

// newModel answers that of a vault of so many blocks of zeros.
func newModel(blocks int) *model { return &model{blocks: blocks, chain: chain.New(blocks)} }

// copy answers a model that is the same, and goes its own way.
func (m *model) copy() *model {
	return &model{blocks: m.blocks, chain: m.chain.Copy(), token: m.token, came: maps.Clone(m.came)}
}

// last answers the last snapshot's guid; zeros, if there is none.
func (m *model) last() api.Guid {
	l := m.chain.List()
	if len(l) == 0 {
		return none
	}
	return l[len(l)-1]
}

// seen answers what seen does of a vault that is as it should be.
func (m *model) seen() string {
	var b strings.Builder
	fmt.Fprintf(&b, "%d blocks, live %s %d;", m.blocks, toldBlocks(m.chain.Live()), api.OK)
	for n, g := range m.chain.List() {
		l, e := m.chain.Read(g)
		changes, e2 := m.chain.Changes(n)
		fmt.Fprintf(&b, " %v: %s %d, %s %d;", g, toldBlocks(l), e, toldChanges(changes), e2)
	}
	fmt.Fprintf(&b, " %d; asks %s", m.token.All, fmt.Sprint(len(m.chain.List()), m.last(), m.token.Target, m.token.Next))
	return b.String()
}

// fits tells whether the part has the token's Base, Target and All.
func (m *model) fits(p api.Part) bool {
	k := m.token
	return k.Target != none && k.Base == p.Base && k.Target == p.Target && k.All == p.All
}

// judge answers what Take should, where there is room and power.
func (m *model) judge(p api.Part) api.Errno {
	if e := stream.Check(p); e != api.OK {
		return e
	}
	if p.Base != m.last() {
		return api.ErrBase
	}
	if p.All > m.blocks {
		return api.ErrArg
	}
	for _, c := range p.Changes {
		if c.Block >= m.blocks {
			return api.ErrArg
		}
	}
	if p.From > 0 && !(m.fits(p) && p.From == m.token.Next) {
		return api.ErrOrder
	}
	if p.From == 0 && m.fits(p) {
		return api.ErrOrder
	}
	if tokenOf(p).Next == p.All && len(m.chain.List()) >= 20 {
		return api.ErrLong
	}
	return api.OK
}

// put does what comes of a part that is taken.
func (m *model) put(p api.Part) {
	if p.From == 0 {
		m.came = map[int]string{}
	}
	for _, c := range p.Changes {
		m.came[c.Block] = c.Data
	}
	m.token = tokenOf(p)
	if m.token.Next < p.All {
		return
	}
	var l []api.Change
	for _, block := range slices.Sorted(maps.Keys(m.came)) {
		l = append(l, api.Change{Block: block, Data: m.came[block]})
	}
	if e := m.chain.Add(p.Target, l); e != api.OK {
		panic("a chain refuses what is taken")
	}
	m.token, m.came = api.Token{}, nil
}

// draws answers a draw from 0 on, below what it is asked for, from a short rule, so that each run does the same.
func draws(seed uint64) func(n int) int {
	x := seed*0x9e3779b97f4a7c15 + 0x1234567
	return func(n int) int {
		x = x*6364136223846793005 + 1442695040888963407
		return int((x >> 33) % uint64(n))
	}
}

// drawnChanges answers up to three changes, that mostly may be in a part.
func drawnChanges(m *model, draw func(n int) int) []api.Change {
	var l []api.Change
	block := draw(m.blocks)
	for range 1 + draw(2) + draw(16)/15 {
		data := strings.Repeat([]string{"\x00", "a", "b", "c"}[draw(4)], 32-draw(60)/59)
		l = append(l, api.Change{Block: block - draw(40)/39, Data: data})
		block += 1 + draw(3) - draw(12)/11
	}
	return l
}

// drawnPart answers a part that often goes on with what came, or begins something.
func drawnPart(m *model, draw func(n int) int) api.Part {
	last := m.last()
	p := api.Part{Base: last, Target: api.Guid{Epoch: last.Epoch + uint64(draw(2)), Count: last.Count + 1 - uint64(draw(10)/9)}}
	p.Changes = drawnChanges(m, draw)
	if m.token.Target != none && draw(4) > 0 {
		p.Target, p.From, p.All = m.token.Target, m.token.Next, m.token.All
		p.Changes = p.Changes[:min(len(p.Changes), max(1, p.All-p.From))]
	} else {
		p.All = draw(m.blocks+1) + draw(12)/11
		p.Changes = p.Changes[:min(len(p.Changes), max(p.All, draw(10)/9))]
	}
	switch draw(16) {
	case 0:
		p.From = draw(p.All + 1)
	case 1:
		p.All += draw(3) - 1
	case 2:
		p.Target.Count += uint64(draw(2))
	case 3:
		p.Base = []api.Guid{none, one, guid(last.Epoch, last.Count-1), p.Target}[draw(4)]
	case 4:
		p.From += draw(3) - 1
	}
	return p
}

// others does something to the vault, and the model, that takes no part.
func others(t *testing.T, v *vault.Vault, m *model, draw func(n int) int) {
	t.Helper()
	l := m.chain.List()
	switch draw(10) {
	case 0, 1:
		g := guid(m.last().Epoch, m.last().Count+1)
		e := m.chain.Snap(g)
		is(t, "Snap", v.Snap(g), e)
		if e == api.OK {
			m.token = api.Token{}
		}
	case 2:
		n := max(0, len(l)-draw(3)*draw(4))
		is(t, "Rollback", v.Rollback(n), m.chain.Rollback(n))
		m.token = api.Token{}
	case 3:
		if len(l) > 0 {
			g := l[draw(len(l))]
			is(t, "Hide", v.Hide(g), m.chain.Hide(g))
		}
	case 4:
		is(t, "Forget", v.Forget(), api.OK)
		m.token = api.Token{}
	default:
		block, data := draw(m.blocks), of([]string{"\x00", "l", "m"}[draw(3)])
		if e := v.Write(block, data); e != api.ErrFull {
			is(t, "Write", e, m.chain.Write(block, data))
		}
	}
}

// offers asks of a part what the chapter says of it, and answers Take's answer; where it is Stage's, a vault on a copy of the disk tells it.
func offers(t *testing.T, d *disk.Disk, v *vault.Vault, m *model, p api.Part) api.Errno {
	t.Helper()
	want := m.judge(p)
	if want == api.OK {
		_, its := aside(t, d)
		want = its.Stage(tokenOf(p), p.Changes)
	}
	if want != api.OK {
		refuses(t, d, v, p, want)
		return want
	}
	takes(t, d, v, p)
	m.put(p)
	if now := seen(v); now != m.seen() {
		t.Fatalf("Take of %s: the vault is\n%s, not\n%s", told(p), now, m.seen())
	}
	return api.OK
}

// P12.1, P12.2: vaults that many parts are offered to, and to which other things are done between, held against the chapter.
func TestManyParts(t *testing.T) {
	found := map[api.Errno]int{}
	whole := 0
	for seed := range uint64(60) {
		draw := draws(seed)
		blocks := 1 + draw(8)
		// Often few sectors, so that there are not as many free ones as are wanted.
		d, v := made(t, api.Data+4+draw(30), blocks)
		m := newModel(blocks)
		for range 100 {
			if draw(6) == 0 {
				others(t, v, m, draw)
			}
			had := len(m.chain.List())
			found[offers(t, d, v, m, drawnPart(m, draw))]++
			whole += len(m.chain.List()) - had
			if now := seen(v); now != m.seen() {
				t.Fatalf("the vault is\n%s, not\n%s", now, m.seen())
			}
			if draw(10) == 0 {
				v = opened(t, d)
			}
		}
	}
	for _, e := range []api.Errno{api.OK, api.ErrArg, api.ErrLong, api.ErrFull, api.ErrBase, api.ErrOrder} {
		if found[e] < 20 {
			t.Errorf("the draws say little: %v", found)
		}
	}
	if whole < 300 {
		t.Errorf("the draws say little: %d snapshots of %d parts", whole, found[api.OK])
	}
}

// P12.3, W4: vaults that many parts are offered to, in some of which the power goes: they are as they were, or as the part makes them, and go on from there.
func TestManyPowerCuts(t *testing.T) {
	cuts, done, left := 0, 0, 0
	for seed := range uint64(40) {
		draw := draws(seed + 500)
		blocks := 1 + draw(8)
		d, v := made(t, api.Data+100, blocks)
		m := newModel(blocks)
		for range 80 {
			p := drawnPart(m, draw)
			if want := m.judge(p); want != api.OK {
				refuses(t, d, v, p, want)
				continue
			}
			behind := m.copy()
			behind.put(p)
			d.Arm(draw(24))
			e := Take(v, p)
			d.Arm(0)
			if e != api.OK {
				is(t, "Take of "+told(p), e, api.ErrOff)
				cuts++
				keep := make([]bool, draw(20))
				for i := range keep {
					keep[i] = draw(2) == 0
				}
				d.Wake(keep)
				v = opened(t, d)
				if seen(v) == m.seen() {
					left++
					continue
				}
				done++
			}
			m = behind
			if now := seen(v); now != m.seen() {
				t.Fatalf("Take of %s, %d: the vault is\n%s, not\n%s", told(p), e, now, m.seen())
			}
		}
	}
	if cuts < 200 || done < 50 || left < 50 {
		t.Errorf("the draws say little: %d %d %d", cuts, done, left)
	}
}

// volumes are the changes of a snapshot, of as many parts as there can be, and what it is then, of a volume of x.
var volumes = []struct{ words, whole string }{
	{"", "xxxxxxxx"},
	{"5a", "xxxxxaxx"},
	{"0a 3b", "axxbxxxx"},
	{"0a 3 7b", "axx xxxb"},
	{"0a 1b 3c 5 7", "abxcx x "},
	{"1 2a 3 4b 5 7c", "x a b xc"},
	{"0a 1b 2c 3d 4e 5f 6g 7h", "abcdefgh"},
}

// based answers a vault of eight blocks x, with the snapshot 1.1.
func based(t *testing.T) (*disk.Disk, *vault.Vault) {
	t.Helper()
	d, v := made(t, 250, 8)
	for block := range 8 {
		is(t, "Write", v.Write(block, of("x")), api.OK)
	}
	is(t, "Snap", v.Snap(one), api.OK)
	return d, v
}

// along asks what is there behind so many parts of all of them, taken in order.
func along(t *testing.T, what string, v *vault.Vault, came int, l []api.Part, whole string) {
	t.Helper()
	reads(t, what, v, one, "xxxxxxxx")
	switch came {
	case len(l):
		asks(t, what, v, 2, two, none, 0)
		reads(t, what, v, two, whole)
		shows(t, what, v, whole)
	case 0:
		asks(t, what, v, 1, one, none, 0)
		shows(t, what, v, "xxxxxxxx")
	default:
		asks(t, what, v, 1, one, two, l[came].From)
		shows(t, what, v, "xxxxxxxx")
	}
}

// turn answers what Take does of the i-th of so many parts, if so many came in order.
func turn(i, came, parts int) api.Errno {
	switch {
	case came == parts:
		return api.ErrBase
	case i != came:
		return api.ErrOrder
	}
	return api.OK
}

// P12.3: all orders of a snapshot's parts, each as often as one likes, on a vault that is opened anew ahead of each: it is there when all have come in order, and then it has all changes.
func TestEachOrder(t *testing.T) {
	for _, x := range volumes {
		d, _ := based(t)
		l := cuts(t, one, two, changesOf(x.words))
		var try func(d *disk.Disk, came, left int)
		try = func(d *disk.Disk, came, left int) {
			if left == 0 {
				return
			}
			for i, p := range l {
				its, v := aside(t, d)
				want, now := turn(i, came, len(l)), came
				is(t, "Take of "+told(p), Take(v, p), want)
				if want == api.OK {
					now++
				}
				along(t, x.words, v, now, l, x.whole)
				try(its, now, left-1)
			}
		}
		try(d, 0, len(l)+1)
	}
}

// P12.3: drawn lists of a snapshot's parts on one vault.
func TestDrawnOrders(t *testing.T) {
	whole, part := 0, 0
	for seed := range uint64(200) {
		draw := draws(seed)
		x := volumes[draw(len(volumes))]
		d, v := based(t)
		l := cuts(t, one, two, changesOf(x.words))
		came := 0
		for range draw(20) {
			i := draw(len(l))
			want := turn(i, came, len(l))
			is(t, "Take of "+told(l[i]), Take(v, l[i]), want)
			if want == api.OK {
				came++
			}
			along(t, x.words, v, came, l, x.whole)
		}
		along(t, x.words, opened(t, d.Copy()), came, l, x.whole)
		if came == len(l) {
			whole++
		} else {
			part++
		}
		// When all come in order, it is there, whatever came ahead of them.
		for i, p := range l {
			e := Take(v, p)
			if want := turn(i, came, len(l)); e != want {
				t.Errorf("Take of %s: %d, not %d", told(p), e, want)
			}
			if e == api.OK {
				came++
			}
		}
		along(t, x.words, v, len(l), l, x.whole)
	}
	if whole < 30 || part < 30 {
		t.Errorf("the draws say little: %d %d", whole, part)
	}
}

// P12.3: drawn lists of the parts of several snapshots of one base: the first one of which all came in order, since its first part came last, is there, of its own changes alone.
func TestSeveralSnapshots(t *testing.T) {
	found := map[api.Guid]int{}
	for seed := range uint64(400) {
		draw := draws(seed)
		_, v := based(t)
		var l []api.Part
		wholes := map[api.Guid]string{}
		for n := range 3 {
			x := volumes[1+draw(len(volumes)-1)]
			g := guid(2, uint64(n))
			l = append(l, cuts(t, one, g, changesOf(x.words))...)
			wholes[g] = x.whole
		}
		var begun api.Guid // that of which parts came last
		came := 0          // its changes
		var there api.Guid
		for range 25 {
			p := l[draw(len(l))]
			e := Take(v, p)
			switch {
			case there != none:
				if e != api.ErrBase {
					t.Fatalf("Take of %s: %d, not ErrBase", told(p), e)
				}
				continue
			case p.From == 0 && p.Target != begun, p.From > 0 && p.Target == begun && p.From == came:
				if e != api.OK {
					t.Fatalf("Take of %s: %d, not OK", told(p), e)
				}
				begun, came = p.Target, p.From+len(p.Changes)
				if came == p.All {
					there = p.Target
				}
			case e != api.ErrOrder:
				t.Fatalf("Take of %s: %d, not ErrOrder", told(p), e)
			}
		}
		found[there]++
		if there == none {
			asks(t, "none is there", v, 1, one, begun, came)
			continue
		}
		asks(t, "one is there", v, 2, there, none, 0)
		reads(t, "one is there", v, there, wholes[there])
	}
	if found[none] < 20 || found[guid(2, 0)] < 20 || found[guid(2, 1)] < 20 || found[guid(2, 2)] < 20 {
		t.Errorf("the draws say little: %v", found)
	}
}

// drawnChain answers a vault of so many blocks, with 20 snapshots, some of which are hidden, and the same chain.
func drawnChain(t *testing.T, blocks int, draw func(n int) int) (*vault.Vault, *chain.Chain) {
	t.Helper()
	_, v := made(t, 1024, blocks)
	c := chain.New(blocks)
	g := none
	for range 20 {
		for range draw(2 * blocks) {
			block, data := draw(blocks), of([]string{"\x00", "a", "b", "c"}[draw(4)])
			is(t, "Write", v.Write(block, data), c.Write(block, data))
		}
		g = guid(g.Epoch+uint64(draw(3)/2), g.Count+1)
		is(t, "Snap", v.Snap(g), c.Snap(g))
		if draw(4) == 0 {
			is(t, "Hide", v.Hide(g), c.Hide(g))
		}
	}
	return v, c
}

// chainsParts answers the parts of all snapshots of a chain, in order, each one as it comes back from its bytes.
func chainsParts(t *testing.T, v *vault.Vault) []api.Part {
	t.Helper()
	var l []api.Part
	base := none
	for n, g := range v.List() {
		changes, e := v.Changes(n)
		is(t, "Changes", e, api.OK)
		for _, p := range cuts(t, base, g, changes) {
			s, e := stream.Encode(p)
			is(t, "Encode", e, api.OK)
			p, e := stream.Decode(s)
			is(t, "Decode", e, api.OK)
			l = append(l, p)
		}
		base = g
	}
	return l
}

// sameChain asks that the vault has the chain's snapshots, each with its blocks, hidden or not there.
func sameChain(t *testing.T, v *vault.Vault, c *chain.Chain) {
	t.Helper()
	if l := v.List(); !slices.Equal(l, c.List()) {
		t.Fatalf("List: %v, not %v", l, c.List())
	}
	for n, g := range c.List() {
		want, e := c.Changes(n)
		is(t, "Changes of the chain", e, api.OK)
		if l, e := v.Changes(n); e != api.OK || !slices.Equal(l, want) {
			t.Errorf("Changes(%d): %s, %d, not %s", n, toldChanges(l), e, toldChanges(want))
		}
		// A hidden one's blocks are seen where it is the last one.
		last := c.Copy()
		is(t, "Rollback of the chain", last.Rollback(n+1), api.OK)
		if l, e := v.Read(g); e != api.OK || !slices.Equal(l, last.Live()) {
			t.Errorf("Read(%v): %s, %d, not %s", g, toldBlocks(l), e, toldBlocks(last.Live()))
		}
	}
}

// P12.3: the parts of a whole chain, taken one by one, make the same chain; also where any others come between.
func TestWholeChain(t *testing.T) {
	for seed := range uint64(20) {
		draw := draws(seed)
		blocks := 1 + int(seed)%8
		from, c := drawnChain(t, blocks, draw)
		l := chainsParts(t, from)
		d, v := made(t, 1024, blocks)
		for i, p := range l {
			for range draw(3) {
				if k := draw(len(l)); k != i {
					if e := Take(v, l[k]); e == api.OK {
						t.Fatalf("Take of %s: it is not its turn", told(l[k]))
					}
				}
			}
			takes(t, d, v, p)
			refuseAgain(t, d, v, p)
		}
		sameChain(t, v, c)
		sameChain(t, opened(t, d), c)
	}
}

// refuseAgain asks that what was taken is refused, when it comes once more.
func refuseAgain(t *testing.T, d *disk.Disk, v *vault.Vault, p api.Part) {
	t.Helper()
	if tokenOf(p).Next == p.All {
		refuses(t, d, v, p, api.ErrBase)
	} else {
		refuses(t, d, v, p, api.ErrOrder)
	}
}

// sent answers the part for which a vault asks, of one that has more.
func sent(t *testing.T, from, v *vault.Vault) (api.Part, bool) {
	t.Helper()
	length, last, target, next := Asks(v)
	l := from.List()
	if length == len(l) {
		return api.Part{}, false
	}
	if target != l[length] {
		next = 0
	}
	changes, e := from.Changes(length)
	is(t, "Changes", e, api.OK)
	p, e := stream.Cut(last, l[length], changes, next)
	is(t, "Cut", e, api.OK)
	return p, true
}

// P12.2, P12.3, W4: who sends what is asked for brings over a whole chain, wherever the power goes, again and again.
func TestWholeChainAsAsked(t *testing.T) {
	cuts := 0
	for seed := range uint64(20) {
		draw := draws(seed + 100)
		blocks := 1 + int(seed)%8
		from, c := drawnChain(t, blocks, draw)
		d, v := made(t, 1024, blocks)
		for turns := 0; ; turns++ {
			p, more := sent(t, from, v)
			if !more {
				break
			}
			if turns > 5000 {
				t.Fatalf("it never comes to an end: %s", asksFor(v))
			}
			if draw(2) == 0 {
				d.Arm(1 + draw(16))
			}
			e := Take(v, p)
			d.Arm(0)
			if e == api.OK {
				continue
			}
			if e != api.ErrOff {
				t.Fatalf("Take of %s: %d", told(p), e)
			}
			cuts++
			d.Wake([]bool{draw(2) == 0, draw(2) == 0, draw(2) == 0})
			v = opened(t, d)
		}
		sameChain(t, v, c)
	}
	if cuts < 200 {
		t.Errorf("the power went %d times", cuts)
	}
}

// FuzzTake holds a vault against its model, as the numbers say.
func FuzzTake(f *testing.F) {
	f.Add(20, 2, []byte{0, 0, 0, 0, 1, 1, 3, 1, 0, 0, 5, 2, 1, 7})
	f.Add(100, 8, []byte("parts, taken one by one, in whatever order, as often as they like"))
	f.Add(0, 1, []byte{})
	f.Fuzz(func(t *testing.T, more, blocks int, numbers []byte) {
		if more < 0 || more > 831 || blocks < 1 || blocks > 8 {
			return
		}
		numbers = numbers[:min(len(numbers), 1000)]
		draw := func(n int) int {
			if len(numbers) == 0 {
				return 0
			}
			x := int(numbers[0]) % n
			numbers = numbers[1:]
			return x
		}
		d, v := made(t, api.Data+more, blocks)
		m := newModel(blocks)
		for len(numbers) > 0 {
			if draw(6) == 0 {
				others(t, v, m, draw)
			}
			offers(t, d, v, m, drawnPart(m, draw))
			if now := seen(v); now != m.seen() {
				t.Fatalf("the vault is\n%s, not\n%s", now, m.seen())
			}
		}
	})
}
