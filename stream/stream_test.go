package stream

import (
	"encoding/hex"
	"fmt"
	"hash/crc32"
	"math"
	"slices"
	"strings"
	"testing"
	"unsafe"

	"stemma/api"
	"stemma/chain"
)

// most is the greatest number of a guid.
const most = math.MaxUint64

// guid answers the guid of that epoch and count.
func guid(epoch, count uint64) api.Guid { return api.Guid{Epoch: epoch, Count: count} }

var none, one, two = guid(0, 0), guid(1, 1), guid(1, 2)

// of answers a change of that block, whose data are the letter.
func of(block int, letter string) api.Change {
	return api.Change{Block: block, Data: strings.Repeat(letter, 32)}
}

// list answers changes of the blocks, in order, each with data of its own.
func list(blocks ...int) []api.Change {
	var l []api.Change
	for i, block := range blocks {
		l = append(l, of(block, string([]byte{byte(0x80 + 16*i + block&15)})))
	}
	return l
}

// part answers a part of 1.1 to 1.2.
func part(from, all int, changes ...api.Change) api.Part {
	return api.Part{Base: one, Target: two, From: from, All: all, Changes: changes}
}

// clone answers the same part in memory of its own.
func clone(p api.Part) api.Part {
	p.Changes = slices.Clone(p.Changes)
	return p
}

// told answers a part as a text, that is another one for each other part.
func told(p api.Part) string {
	return fmt.Sprintf("%v to %v, %d of %d:%s", p.Base, p.Target, p.From, p.All, toldChanges(p.Changes))
}

// toldChanges answers changes as a text, that is another one for each other changes.
func toldChanges(l []api.Change) string {
	var b strings.Builder
	for _, c := range l {
		fmt.Fprintf(&b, " %d %q", c.Block, c.Data)
	}
	return b.String()
}

// parts answers parts that may be.
func parts() []api.Part {
	l := []api.Part{
		part(0, 0),
		part(0, 1, of(0, "\x00")),
		part(0, 1, of(7, "\xff")),
		part(0, 2, of(6, "a"), of(7, "b")),
		part(1, 2, of(4, "e")),
		part(0, 8, of(0, "a"), of(1, "b")),
		part(6, 8, of(6, "a"), of(7, "b")),
		part(7, 8, of(7, "h")),
		part(3, 8, of(0, "a"), of(7, "b")),
		part(5, 6, api.Change{Block: 3, Data: "0123456789abcdefghijklmnopqrstuv"}),
	}
	for _, x := range pairs {
		if x.is {
			l = append(l, api.Part{Base: x.base, Target: x.target, From: 2, All: 5, Changes: list(2, 5)})
			l = append(l, api.Part{Base: x.base, Target: x.target})
		}
	}
	return l
}

// pairs are guids, and whether the second one is above the first one.
var pairs = []struct {
	base, target api.Guid
	is           bool
}{
	{guid(0, 0), guid(0, 1), true},
	{guid(0, 0), guid(1, 0), true},
	{guid(0, 0), guid(1, 1), true},
	{guid(0, 0), guid(most, most), true},
	{guid(1, 1), guid(1, 2), true},
	{guid(1, 1), guid(2, 1), true},
	{guid(1, 9), guid(2, 1), true},
	{guid(1, 9), guid(2, 0), true},
	{guid(1, most), guid(2, 0), true},
	{guid(0, most), guid(1, 0), true},
	{guid(1, 0), guid(1, 1), true},
	{guid(1, 255), guid(1, 256), true},
	{guid(1, 1<<32-1), guid(1, 1<<32), true},
	{guid(1, 1<<63-1), guid(1, 1<<63), true},
	{guid(1<<32-1, 1), guid(1<<32, 1), true},
	{guid(1<<63-1, 1), guid(1<<63, 1), true},
	{guid(most, most-1), guid(most, most), true},
	{guid(most-1, most), guid(most, 0), true},
	{guid(0, 0), guid(0, 0), false},
	{guid(0, 1), guid(0, 0), false},
	{guid(1, 0), guid(0, 0), false},
	{guid(1, 1), guid(1, 1), false},
	{guid(1, 2), guid(1, 1), false},
	{guid(1, 1), guid(1, 0), false},
	{guid(2, 1), guid(1, 1), false},
	{guid(2, 1), guid(1, 9), false},
	{guid(2, 0), guid(1, most), false},
	{guid(1, 0), guid(0, most), false},
	{guid(1, 1<<63), guid(1, 1<<63-1), false},
	{guid(1<<63, 1), guid(1<<63-1, 1), false},
	{guid(most, most), guid(most, most), false},
	{guid(most, most), guid(most, most-1), false},
	{guid(most, 0), guid(most-1, most), false},
	{guid(most, most), guid(0, 0), false},
}

// numbers are those of which it is asked whether they may be: all near the limits, and some far beyond.
func numbers() []int {
	l := []int{math.MinInt, math.MinInt + 1, math.MinInt32, -1 << 32, -256, -9, -8, -3, -2}
	for n := -1; n <= 11; n++ {
		l = append(l, n)
	}
	return append(l, 255, 256, 257, 1<<31, 1<<32, 1<<32+1, 1<<32+8, math.MaxInt-8, math.MaxInt-1, math.MaxInt)
}

// errorOf answers OK or ErrArg.
func errorOf(holds bool) api.Errno {
	if holds {
		return api.OK
	}
	return api.ErrArg
}

// isAbove tells whether g is above other.
func isAbove(g, other api.Guid) bool {
	return g.Epoch > other.Epoch || g.Epoch == other.Epoch && g.Count > other.Count
}

// areChanges tells whether changes may be, as the chapter tells it.
func areChanges(l []api.Change) bool {
	for i, c := range l {
		if c.Block < 0 || c.Block >= 8 || len(c.Data) != 32 {
			return false
		}
		if i > 0 && c.Block <= l[i-1].Block {
			return false
		}
	}
	return true
}

// isPart tells whether a part may be, as the chapter tells it.
func isPart(p api.Part) bool {
	n := len(p.Changes)
	switch {
	case !isAbove(p.Target, p.Base), p.All < 0, p.All > 8, p.From < 0, p.From > p.All:
		return false
	case p.From+n > p.All, n > 2, p.All != 0 && n == 0:
		return false
	}
	return areChanges(p.Changes)
}

// headOf answers the numbers with which a part's bytes begin.
func headOf(p api.Part) []uint64 {
	return []uint64{p.Base.Epoch, p.Base.Count, p.Target.Epoch, p.Target.Count, uint64(p.From), uint64(p.All), uint64(len(p.Changes))}
}

// number answers a number's bytes.
func number(n uint64) string {
	b := []byte{0}
	for places := 56; places >= 0; places -= 8 {
		if n>>places != 0 {
			b = append(b, byte(n>>places))
		}
	}
	b[0] = byte(len(b) - 1)
	return string(b)
}

// text answers a text's bytes.
func text(s string) string { return number(uint64(len(s))) + s }

// sealed answers s, and its sum behind it.
func sealed(s string) string {
	n := crc32.ChecksumIEEE([]byte(s))
	return s + string([]byte{byte(n >> 24), byte(n >> 16), byte(n >> 8), byte(n)})
}

// tokens answers the bytes of each number and text of a part, in order, ahead of the sum.
func tokens(p api.Part) []string {
	var l []string
	for _, n := range headOf(p) {
		l = append(l, number(n))
	}
	for _, c := range p.Changes {
		l = append(l, number(uint64(c.Block)), text(c.Data))
	}
	return l
}

// laid answers a part's bytes ahead of the sum.
func laid(p api.Part) string { return strings.Join(tokens(p), "") }

// is asks that a call's error is that one.
func is(t *testing.T, what string, got, want api.Errno) {
	t.Helper()
	if got != want {
		t.Errorf("%s: %d, not %d", what, got, want)
	}
}

// checks asks what Check answers, that Encode answers an error alike, and that the part is then what it was.
func checks(t *testing.T, what string, p api.Part, want api.Errno) {
	t.Helper()
	was := told(p)
	is(t, what+": Check("+was+")", Check(p), want)
	s, e := Encode(p)
	is(t, what+": Encode("+was+")", e, want)
	if want != api.OK && s != "" {
		t.Errorf("%s: Encode(%s): % x beside an error", what, was, s)
	}
	if told(p) != was {
		t.Errorf("%s: %s was made of %s", what, told(p), was)
	}
}

// encoded asks that the part's bytes are these, and that it comes back from them.
func encoded(t *testing.T, what string, p api.Part, want string) {
	t.Helper()
	checks(t, what, p, api.OK)
	was := told(p)
	s, e := Encode(p)
	if s != want || e != api.OK {
		t.Errorf("%s: Encode(%s): % x, %d, not % x", what, was, s, e, want)
	}
	its, e := Decode(want)
	if told(its) != was || e != api.OK {
		t.Errorf("%s: Decode(% x): %s, %d, not %s", what, want, told(its), e, was)
	}
	if !Same(its, p) || !Same(p, its) {
		t.Errorf("%s: %s and %s should be alike", what, told(its), was)
	}
}

// undecoded asks that these are no part's bytes, and that beside the error the part is empty.
func undecoded(t *testing.T, what, s string) {
	t.Helper()
	p, e := Decode(s)
	if told(p) != told(api.Part{}) || e != api.ErrForm {
		t.Errorf("%s: Decode(% x): %s, %d, not ErrForm", what, s, told(p), e)
	}
}

// refused asks that a part is not cut, and that beside the error it is empty.
func refused(t *testing.T, what string, base, target api.Guid, changes []api.Change, from int) {
	t.Helper()
	was := toldChanges(changes)
	p, e := Cut(base, target, changes, from)
	if told(p) != told(api.Part{}) || e != api.ErrArg {
		t.Errorf("%s: Cut(%v, %v, %s, %d): %s, %d, not ErrArg", what, base, target, was, from, told(p), e)
	}
	if toldChanges(changes) != was {
		t.Errorf("%s: Cut made %s of %s", what, toldChanges(changes), was)
	}
}

// cut asks that a part is cut so.
func cut(t *testing.T, what string, base, target api.Guid, changes []api.Change, from int, want api.Part) {
	t.Helper()
	was := toldChanges(changes)
	p, e := Cut(base, target, changes, from)
	if told(p) != told(want) || e != api.OK {
		t.Errorf("%s: Cut(%v, %v, %s, %d): %s, %d, not %s", what, base, target, was, from, told(p), e, told(want))
	}
	if toldChanges(changes) != was {
		t.Errorf("%s: Cut made %s of %s", what, toldChanges(changes), was)
	}
}

// bytesOf reads digits, with blanks between them.
func bytesOf(t *testing.T, digits string) string {
	t.Helper()
	b, err := hex.DecodeString(strings.ReplaceAll(digits, " ", ""))
	if err != nil {
		t.Fatal(err)
	}
	return string(b)
}

// The chapter's table, row by row.
func TestExamples(t *testing.T) {
	a, b, c := of(0, "a"), of(3, "b"), of(7, "c")
	abc := []api.Change{a, b, c}
	cut(t, "the first two", one, two, abc, 0, part(0, 3, a, b))
	cut(t, "the last one", one, two, abc, 2, part(2, 3, c))
	refused(t, "behind the last one", one, two, abc, 3)
	cut(t, "no changes", one, two, nil, 0, part(0, 0))

	refused(t, "of itself", two, two, []api.Change{a}, 0)
	refused(t, "falling", none, one, []api.Change{b, a}, 0)
	refused(t, "ahead of the first", none, one, []api.Change{a}, -1)

	checks(t, "0 of 3, no changes", part(0, 3), api.ErrArg)
	checks(t, "2 of 3, a b", part(2, 3, a, b), api.ErrArg)
	checks(t, "0 of 9, a", part(0, 9, a), api.ErrArg)

	if s, e := Encode(part(0, 0)); len(s) != 15 || e != api.OK {
		t.Errorf("0 of 0: % x, %d", s, e)
	}
}

// P11.3: the bytes, one by one, of parts without a change, with one, and with two.
func TestBytes(t *testing.T) {
	for _, x := range []struct {
		what   string
		part   api.Part
		digits string
	}{
		{"no change", part(0, 0), "01 01 01 01 01 01 01 02 00 00 00"},
		{"no change, of none", api.Part{Target: guid(0, 1)}, "00 00 00 01 01 00 00 00"},
		{"one change", part(2, 3, of(7, "c")), "01 01 01 01 01 01 01 02 01 02 01 03 01 01 01 07 01 20" + strings.Repeat(" 63", 32)},
		{"one change of zeros", part(0, 1, of(0, "\x00")), "01 01 01 01 01 01 01 02 00 01 01 01 01 00 01 20" + strings.Repeat(" 00", 32)},
		{"two changes", part(0, 3, of(0, "a"), of(3, "b")), "01 01 01 01 01 01 01 02 00 01 03 01 02 00 01 20" + strings.Repeat(" 61", 32) + " 01 03 01 20" + strings.Repeat(" 62", 32)},
		{"great numbers", api.Part{Base: guid(300, most), Target: guid(1<<32, 256), From: 6, All: 8, Changes: []api.Change{of(1, "\xff"), of(7, "\x80")}}, "02 01 2c 08 ff ff ff ff ff ff ff ff 05 01 00 00 00 00 02 01 00 01 06 01 08 01 02 01 01 01 20" + strings.Repeat(" ff", 32) + " 01 07 01 20" + strings.Repeat(" 80", 32)},
	} {
		encoded(t, x.what, x.part, sealed(bytesOf(t, x.digits)))
	}
	// And with the sum, all of them.
	encoded(t, "no change", part(0, 0), bytesOf(t, "01 01 01 01 01 01 01 02 00 00 00 64 58 28 e5"))
}

// fault is something that may not be in a part.
type fault struct {
	what string
	make func(p *api.Part)
}

// whole answers a part with all that there can be.
func whole() api.Part {
	return api.Part{Base: guid(5, 2), Target: guid(5, 3), From: 2, All: 6, Changes: []api.Change{of(3, "d"), of(5, "f")}}
}

// faults answers what may not be in the whole part; any two can be there at once.
func faults() []fault {
	return []fault{
		{"Target is Base", func(p *api.Part) { p.Target = p.Base }},
		{"Target is below Base", func(p *api.Part) { p.Target = guid(4, 9) }},
		{"Base is above Target", func(p *api.Part) { p.Base = guid(6, 0) }},
		{"All is below 0", func(p *api.Part) { p.All = -1 }},
		{"All is above 8", func(p *api.Part) { p.All = 9 }},
		{"All is 0", func(p *api.Part) { p.All = 0 }},
		{"All is too few", func(p *api.Part) { p.All = 3 }},
		{"From is below 0", func(p *api.Part) { p.From = -1 }},
		{"From is above All", func(p *api.Part) { p.From = 10 }},
		{"From is All", func(p *api.Part) { p.From = 6 }},
		{"From is too many", func(p *api.Part) { p.From = 5 }},
		{"no changes", func(p *api.Part) { p.Changes = nil }},
		{"an empty list of changes", func(p *api.Part) { p.Changes = []api.Change{} }},
		{"three changes", func(p *api.Part) { p.Changes = list(3, 5, 7) }},
		{"a Block below 0", func(p *api.Part) { p.Changes = []api.Change{of(-1, "d"), of(5, "f")} }},
		{"a Block above 7", func(p *api.Part) { p.Changes = []api.Change{of(3, "d"), of(8, "f")} }},
		{"Blocks alike", func(p *api.Part) { p.Changes = []api.Change{of(3, "d"), of(3, "f")} }},
		{"Blocks that fall", func(p *api.Part) { p.Changes = []api.Change{of(5, "d"), of(3, "f")} }},
		{"Data too short", func(p *api.Part) { p.Changes[0].Data = strings.Repeat("d", 31) }},
		{"Data too long", func(p *api.Part) { p.Changes[0].Data = strings.Repeat("d", 33) }},
		{"no Data", func(p *api.Part) { p.Changes[0].Data = "" }},
	}
}

// P11.1, P11.3: each thing that a part must keep wrong in its turn, and two of them at once.
func TestEachFault(t *testing.T) {
	checks(t, "none", whole(), api.OK)
	for _, x := range faults() {
		p := whole()
		x.make(&p)
		checks(t, x.what, p, api.ErrArg)
		for _, y := range faults() {
			p := whole()
			y.make(&p)
			if len(p.Changes) == 0 && strings.Contains(x.what, "Data") {
				continue
			}
			x.make(&p)
			// The later fault may take the place of the earlier one, but it stays itself.
			checks(t, y.what+", "+x.what, p, api.ErrArg)
		}
	}
}

// P11.1, P11.2: Target above Base.
func TestGuids(t *testing.T) {
	for _, x := range pairs {
		for _, p := range []api.Part{part(0, 0), part(0, 1, of(0, "a")), part(6, 8, of(1, "a"), of(7, "b"))} {
			p.Base, p.Target = x.base, x.target
			checks(t, "guids", p, errorOf(x.is))
			if x.is {
				encoded(t, "guids", p, sealed(laid(p)))
			} else {
				undecoded(t, "guids", sealed(laid(p)))
			}
		}
		for _, l := range [][]api.Change{nil, {}, list(0), list(1, 3, 5)} {
			if x.is {
				n := min(len(l), 2)
				cut(t, "guids", x.base, x.target, l, 0, api.Part{Base: x.base, Target: x.target, All: len(l), Changes: l[:n:n]})
			} else {
				refused(t, "guids", x.base, x.target, l, 0)
			}
		}
	}
}

// P11.1, R1: all numbers From and All near the limits and far beyond, with up to four changes.
func TestNumbers(t *testing.T) {
	found := 0
	for _, from := range numbers() {
		for _, all := range numbers() {
			for n := range 5 {
				p := part(from, all, list(1, 4, 6, 7)[:n]...)
				want := all >= 0 && all <= 8 && from >= 0 && from <= all && n <= 2 && n <= all-from && (all == 0 || n > 0)
				checks(t, "numbers", p, errorOf(want))
				if want {
					found++
					encoded(t, "numbers", p, sealed(laid(p)))
				} else if from >= 0 && all >= 0 {
					undecoded(t, "numbers", sealed(laid(p)))
				}
			}
		}
	}
	// 0 of 0; of each other All one change from each place, and two from each but the last.
	if want := 1 + 36 + 28; found != want {
		t.Errorf("%d may be, not %d", found, want)
	}
}

// P11.1: the numbers at their limits, and one beyond.
func TestLimits(t *testing.T) {
	for _, x := range []struct {
		what string
		part api.Part
		want api.Errno
	}{
		{"All 0, no changes", part(0, 0), api.OK},
		{"All 0, a list without changes", api.Part{Base: one, Target: two, Changes: []api.Change{}}, api.OK},
		{"All 0, a change", part(0, 0, of(0, "a")), api.ErrArg},
		{"All 0, From 1", part(1, 0), api.ErrArg},
		{"All 0, From -1", part(-1, 0), api.ErrArg},
		{"All 0, From -1, a change", part(-1, 0, of(0, "a")), api.ErrArg},
		{"All -1", part(0, -1), api.ErrArg},
		{"All -1, From -1", part(-1, -1), api.ErrArg},
		{"All -1, From -2, a change", part(-2, -1, of(0, "a")), api.ErrArg},
		{"All 1, no changes", part(0, 1), api.ErrArg},
		{"All 1, a change", part(0, 1, of(0, "a")), api.OK},
		{"All 1, two changes", part(0, 1, list(0, 1)...), api.ErrArg},
		{"All 1, From 1", part(1, 1), api.ErrArg},
		{"All 1, From 1, a change", part(1, 1, of(0, "a")), api.ErrArg},
		{"All 1, From 2", part(2, 1), api.ErrArg},
		{"All 1, From -1, two changes", part(-1, 1, list(0, 1)...), api.ErrArg},
		{"All 8, From 0", part(0, 8, of(0, "a")), api.OK},
		{"All 8, From 0, two changes", part(0, 8, list(0, 1)...), api.OK},
		{"All 8, From 0, three changes", part(0, 8, list(0, 1, 2)...), api.ErrArg},
		{"All 8, From 7", part(7, 8, of(7, "a")), api.OK},
		{"All 8, From 7, two changes", part(7, 8, list(6, 7)...), api.ErrArg},
		{"All 8, From 6, two changes", part(6, 8, list(6, 7)...), api.OK},
		{"All 8, From 8", part(8, 8), api.ErrArg},
		{"All 8, From 8, a change", part(8, 8, of(7, "a")), api.ErrArg},
		{"All 8, From 9", part(9, 8), api.ErrArg},
		{"All 9", part(0, 9, of(0, "a")), api.ErrArg},
		{"All 9, From 8", part(8, 9, of(0, "a")), api.ErrArg},
		{"From as high as can be", part(math.MaxInt, 8, list(0, 1)...), api.ErrArg},
		{"From and All as high as can be", part(math.MaxInt, math.MaxInt), api.ErrArg},
		{"From as low as can be", part(math.MinInt, 8, list(0, 1)...), api.ErrArg},
		{"All as low as can be, From as high", part(math.MaxInt, math.MinInt, list(0)...), api.ErrArg},
		{"From and All as low as can be", part(math.MinInt, math.MinInt), api.ErrArg},
		{"more changes than blocks", part(0, 8, list(0, 1, 2, 3, 4, 5, 6, 7, 8)...), api.ErrArg},
		{"very many changes", part(0, 8, make([]api.Change, 1<<12)...), api.ErrArg},
		{"nothing", api.Part{}, api.ErrArg},
	} {
		checks(t, x.what, x.part, x.want)
	}
	// A part does not tell which blocks are others ahead of From, so the first one may be any.
	for block := range 8 {
		checks(t, "any block first", part(6, 8, of(block, "a")), api.OK)
	}
}

// P11.1, P11.2: all pairs of Blocks, of parts and of changes that are cut.
func TestBlocks(t *testing.T) {
	for _, first := range numbers() {
		want := first >= 0 && first <= 7
		p := part(0, 8, of(first, "a"))
		checks(t, "a block", p, errorOf(want))
		if want {
			encoded(t, "a block", p, sealed(laid(p)))
			cut(t, "a block", one, two, p.Changes, 0, part(0, 1, p.Changes...))
		} else {
			undecoded(t, "a block", sealed(laid(p)))
			refused(t, "a block", one, two, p.Changes, 0)
		}
		for _, second := range numbers() {
			want := first >= 0 && first < second && second <= 7
			p := part(6, 8, of(first, "a"), of(second, "b"))
			checks(t, "two blocks", p, errorOf(want))
			if want {
				encoded(t, "two blocks", p, sealed(laid(p)))
				cut(t, "two blocks", one, two, p.Changes, 0, part(0, 2, p.Changes...))
				cut(t, "two blocks", one, two, p.Changes, 1, part(1, 2, p.Changes[1]))
			} else {
				undecoded(t, "two blocks", sealed(laid(p)))
				refused(t, "two blocks", one, two, p.Changes, 0)
				refused(t, "two blocks", one, two, p.Changes, 1)
			}
		}
	}
}

// P11.1, P11.2: how many bytes Data has.
func TestData(t *testing.T) {
	for _, n := range []int{0, 1, 30, 31, 32, 33, 34, 63, 64, 255, 256, 257, 288, 1 << 13, 1<<16 + 32} {
		for i := range 2 {
			p := part(0, 2, list(2, 3)...)
			p.Changes[i].Data = strings.Repeat("x", n)
			checks(t, "Data", p, errorOf(n == 32))
			if n == 32 {
				encoded(t, "Data", p, sealed(laid(p)))
				cut(t, "Data", one, two, p.Changes, 0, p)
			} else {
				undecoded(t, "Data", sealed(laid(p)))
				refused(t, "Data", one, two, p.Changes, 0)
				refused(t, "Data", one, two, p.Changes, 1)
			}
		}
	}
	// Any bytes may be in it, and what is no character of Unicode takes no room of another one.
	for _, data := range []string{strings.Repeat("\x00", 32), strings.Repeat("\xff", 32), strings.Repeat("é", 16), strings.Repeat("\xc3", 32), "\x01" + strings.Repeat("\x00", 31)} {
		p := part(0, 1, api.Change{Data: data})
		encoded(t, "any bytes", p, sealed(laid(p)))
	}
	checks(t, "32 characters of more bytes", part(0, 1, of(0, "é")), api.ErrArg)
}

// same asks whether both are alike, both ways round, and that they are then what they were.
func same(t *testing.T, what string, a, b api.Part, want bool) {
	t.Helper()
	first, other := told(a), told(b)
	if Same(a, b) != want || Same(b, a) != want {
		t.Errorf("%s: Same(%s, %s): %v, %v, not %v", what, first, other, Same(a, b), Same(b, a), want)
	}
	if told(a) != first || told(b) != other {
		t.Errorf("%s: Same made %s and %s of %s and %s", what, told(a), told(b), first, other)
	}
}

// others answers for each field, and for the length of the list, what makes it another one.
func others() []fault {
	l := []fault{
		{"Base's Epoch", func(p *api.Part) { p.Base.Epoch++ }},
		{"Base's Count", func(p *api.Part) { p.Base.Count-- }},
		{"Target's Epoch", func(p *api.Part) { p.Target.Epoch++ }},
		{"Target's Count", func(p *api.Part) { p.Target.Count += 1 << 32 }},
		{"Base and Target", func(p *api.Part) { p.Base, p.Target = p.Target, p.Base }},
		{"From", func(p *api.Part) { p.From++ }},
		{"From below 0", func(p *api.Part) { p.From -= 1 << 32 }},
		{"All", func(p *api.Part) { p.All-- }},
		{"All far above", func(p *api.Part) { p.All += 1 << 32 }},
		{"From and All", func(p *api.Part) { p.From, p.All = p.All, p.From }},
		{"no changes", func(p *api.Part) { p.Changes = nil }},
		{"the last change less", func(p *api.Part) { p.Changes = p.Changes[:1] }},
		{"the first change less", func(p *api.Part) { p.Changes = p.Changes[1:] }},
		{"a change more", func(p *api.Part) { p.Changes = append(p.Changes, of(7, "h")) }},
		{"a change of nothing more", func(p *api.Part) { p.Changes = append(p.Changes, api.Change{}) }},
		{"a change ahead", func(p *api.Part) { p.Changes = append(list(0), p.Changes...) }},
		{"changes in another order", func(p *api.Part) { p.Changes[0], p.Changes[1] = p.Changes[1], p.Changes[0] }},
	}
	for i := range 2 {
		l = append(l,
			fault{"a Block", func(p *api.Part) { p.Changes[i].Block++ }},
			fault{"a Block far above", func(p *api.Part) { p.Changes[i].Block += 1 << 32 }},
			fault{"a Block below 0", func(p *api.Part) { p.Changes[i].Block -= 8 }},
			fault{"no Data", func(p *api.Part) { p.Changes[i].Data = "" }},
			fault{"a byte of Data more", func(p *api.Part) { p.Changes[i].Data += "\x00" }},
			fault{"a byte of Data less", func(p *api.Part) { p.Changes[i].Data = p.Changes[i].Data[1:] }})
		for _, at := range []int{0, 1, 15, 16, 30, 31} {
			l = append(l, fault{fmt.Sprintf("the byte %d of Data", at), func(p *api.Part) {
				b := []byte(p.Changes[i].Data)
				b[at] ^= 1
				p.Changes[i].Data = string(b)
			}})
		}
	}
	return l
}

// P11.1: parts that differ in one field, each one in its turn, or in how many changes they have.
func TestSameOfOthers(t *testing.T) {
	same(t, "alike", whole(), whole(), true)
	all := others()
	for i, x := range all {
		p := whole()
		x.make(&p)
		same(t, x.what, p, whole(), false)
		again := whole()
		x.make(&again)
		same(t, x.what+" in both", p, again, true)
		for _, y := range all[:i] {
			other := whole()
			y.make(&other)
			same(t, x.what+", "+y.what, p, other, told(p) == told(other))
		}
	}
	l := parts()
	for i, a := range l {
		for k, b := range l {
			same(t, "parts", a, b, i == k || told(a) == told(b))
		}
		same(t, "in memory of its own", a, clone(a), true)
	}
}

// P11.1, R4: lists that are nil or empty are the same, and any two parts may be asked, also such that may not be.
func TestSameOfAny(t *testing.T) {
	empty := api.Part{Changes: []api.Change{}}
	same(t, "nothing", api.Part{}, api.Part{}, true)
	same(t, "nil, empty", api.Part{}, empty, true)
	same(t, "nil, cut to nothing", api.Part{}, api.Part{Changes: list(1)[:0]}, true)
	same(t, "empty, cut to nothing", empty, api.Part{Changes: list(1)[1:]}, true)
	same(t, "nil, empty, of a part", part(0, 0), api.Part{Base: one, Target: two, Changes: []api.Change{}}, true)
	same(t, "nothing, and a change of nothing", empty, api.Part{Changes: make([]api.Change, 1)}, false)
	same(t, "room behind the end", part(0, 8, list(1, 2)[:1]...), part(0, 8, list(1, 3)[:1]...), true)
	same(t, "beyond all", part(-1, 99, make([]api.Change, 300)...), part(-1, 99, make([]api.Change, 300)...), true)
	same(t, "beyond all", part(-1, 99, make([]api.Change, 300)...), part(-1, 99, make([]api.Change, 301)...), false)
	same(t, "beyond all", part(math.MinInt, 0), part(math.MaxInt, 0), false)
	same(t, "falling", part(0, 2, list(5, 2)...), part(0, 2, list(5, 2)...), true)
	checks(t, "an empty list", api.Part{Base: one, Target: two, Changes: []api.Change{}}, api.OK)
	s, _ := Encode(api.Part{Base: one, Target: two, Changes: []api.Change{}})
	if want := sealed(laid(part(0, 0))); s != want {
		t.Errorf("an empty list: % x, not % x", s, want)
	}
}

// P11.2: changes of all lengths, from each place, ahead of the first and behind the last.
func TestCut(t *testing.T) {
	blocks := []int{0, 1, 2, 3, 4, 5, 6, 7}
	for n := range 9 {
		for _, l := range [][]api.Change{list(blocks[:n]...), list(blocks[8-n:]...)} {
			for _, from := range numbers() {
				if from < 0 || from >= n && !(n == 0 && from == 0) {
					refused(t, "no place", one, two, l, from)
					continue
				}
				want := part(from, n)
				for i := from; i < n && i < from+2; i++ {
					want.Changes = append(want.Changes, l[i])
				}
				cut(t, "a place", one, two, l, from, want)
				checks(t, "what is cut", want, api.OK)
			}
		}
	}
	cut(t, "an empty list", one, two, []api.Change{}, 0, part(0, 0))
	refused(t, "an empty list", one, two, []api.Change{}, 1)
	refused(t, "an empty list", one, two, []api.Change{}, -1)
	cut(t, "blocks apart", none, one, list(0, 2, 5, 7), 1, api.Part{Target: one, From: 1, All: 4, Changes: list(0, 2, 5, 7)[1:3]})
}

// P11.2: the whole of the changes may be, wherever the part is cut from.
func TestCutAsksForAllChanges(t *testing.T) {
	for n := 1; n <= 8; n++ {
		for at := range n {
			for i, spoil := range []func(c *api.Change){
				func(c *api.Change) { c.Block = -1 },
				func(c *api.Change) { c.Block = 8 },
				func(c *api.Change) { c.Block = math.MinInt },
				func(c *api.Change) { c.Block = math.MaxInt },
				func(c *api.Change) { c.Data = "" },
				func(c *api.Change) { c.Data = c.Data[1:] },
				func(c *api.Change) { c.Data += "x" },
			} {
				l := list([]int{0, 1, 2, 3, 4, 5, 6, 7}[:n]...)
				spoil(&l[at])
				for from := -1; from <= n; from++ {
					refused(t, fmt.Sprintf("the fault %d in the change %d", i, at), one, two, l, from)
				}
			}
			// A block that is there twice, or that falls, at each place but the first.
			for _, less := range []int{1, 2} {
				l := list([]int{0, 1, 2, 3, 4, 5, 6, 7}[:n]...)
				l[at].Block -= less
				for from := range n {
					refused(t, fmt.Sprintf("the change %d has a block of one ahead", at), one, two, l, from)
				}
			}
		}
	}
	nine := list(0, 1, 2, 3, 4, 5, 6, 7, 8)
	for from := range 10 {
		refused(t, "nine changes", one, two, nine, from)
		refused(t, "nine changes, one of them twice", one, two, append(nine[:8:8], nine[7]), from)
		refused(t, "very many changes", one, two, make([]api.Change, 1<<12), from)
	}
	// All that may be wrong, at once.
	refused(t, "all at once", two, one, list(7, 0), 5)
	refused(t, "target, and from", two, two, list(0), 1)
	refused(t, "target, and no changes", two, two, nil, 0)
	refused(t, "changes, and from", one, two, list(8), 1)
}

// shown answers a text that lies in the bytes that are handed in, and changes with them.
func shown(b []byte) string { return unsafe.String(&b[0], len(b)) }

// R5, P11.2: a part that is cut shares nothing with the changes, and no two parts share anything.
func TestCutSharesNothing(t *testing.T) {
	b := []byte(strings.Repeat("abcdefgh", 12))
	handed := []api.Change{{Block: 1, Data: shown(b[:32])}, {Block: 4, Data: shown(b[32:64])}, {Block: 6, Data: shown(b[64:])}}
	data := strings.Repeat("abcdefgh", 4)
	for from := range 3 {
		p, _ := Cut(one, two, handed, from)
		again, _ := Cut(one, two, handed, from)
		was := told(p)
		for i := range p.Changes {
			p.Changes[i] = of(7, "x")
		}
		_ = append(p.Changes, of(7, "y"))
		_ = append(p.Changes[:1], of(7, "z"))
		if told(again) != was || toldChanges(handed) != toldChanges([]api.Change{{Block: 1, Data: data}, {Block: 4, Data: data}, {Block: 6, Data: data}}) {
			t.Errorf("from %d: what was written into an answer is in %s, %s", from, told(again), toldChanges(handed))
		}
	}
	l := slices.Clone(handed)
	p, _ := Cut(one, two, l, 0)
	q, _ := Cut(one, two, l, 2)
	was := told(p) + told(q)
	clear(l)
	clear(b)
	if told(p)+told(q) != was || p.Changes[1].Data != data {
		t.Errorf("what was handed in is in %s, %s", told(p), told(q))
	}
}

// R5, P11.3: what Encode and Decode answer shares nothing with what was handed in.
func TestBytesShareNothing(t *testing.T) {
	b := []byte(strings.Repeat("abcdefgh", 4))
	p := part(0, 2, of(1, "a"), api.Change{Block: 2, Data: shown(b)})
	s, _ := Encode(p)
	want := strings.Clone(s)
	clear(b)
	p.Changes[0] = of(3, "d")
	if s != want {
		t.Errorf("what was handed in is in % x", s)
	}
	in := []byte(want)
	q, _ := Decode(shown(in))
	again, _ := Decode(shown(in))
	was := told(q)
	clear(in)
	if told(q) != was || told(again) != was {
		t.Errorf("the bytes that were handed in are in %s, %s", told(q), told(again))
	}
	q.Changes[0] = of(7, "x")
	_ = append(q.Changes[:1], of(7, "y"))
	if told(again) != was {
		t.Errorf("what was written into an answer is in %s", told(again))
	}
}

// P11.3, P11.4: parts come back from their bytes, and no part that may not be has any.
func TestPartsComeBack(t *testing.T) {
	for _, p := range parts() {
		encoded(t, "a part", p, sealed(laid(p)))
	}
	l := parts()
	for i, a := range l {
		for k, b := range l {
			if i != k && told(a) != told(b) && sealed(laid(a)) == sealed(laid(b)) {
				t.Errorf("%s and %s have the same bytes", told(a), told(b))
			}
		}
	}
}

// takenJustSo asks that bytes are none's, or those of a part that may be, that is laid just so.
func takenJustSo(t *testing.T, s string) (api.Part, bool) {
	t.Helper()
	p, e := Decode(s)
	if e != api.OK {
		undecoded(t, "none's", s)
		return p, false
	}
	if !isPart(p) || sealed(laid(p)) != s {
		t.Errorf("Decode(% x): %s", s, told(p))
	}
	encoded(t, "taken", p, s)
	return p, true
}

// P11.3: nothing, what is shorter than a sum, a sum of nothing, and other bytes that are no part's.
func TestNoPartsBytes(t *testing.T) {
	for _, s := range []string{"", "\x00", "\x00\x00\x00", "\x00\x00\x00\x00", "\x00\x00\x00\x00\x00", "\xff", strings.Repeat("\xff", 64), strings.Repeat("\x00", 64), strings.Repeat("\x01", 1<<16)} {
		undecoded(t, "none", s)
		undecoded(t, "sealed", sealed(s))
		undecoded(t, "sealed twice", sealed(sealed(s)))
	}
	// All zeros make a part whose Target is its Base.
	for n := range 16 {
		undecoded(t, "zeros", sealed(strings.Repeat("\x00", n)))
	}
	for _, p := range parts() {
		undecoded(t, "not sealed", laid(p))
		undecoded(t, "sealed twice", sealed(sealed(laid(p))))
		undecoded(t, "another sum", laid(p)+"\x00\x00\x00\x00")
		b := []byte(sealed(laid(p)))
		slices.Reverse(b[len(b)-4:])
		undecoded(t, "the lowest byte of the sum first", string(b))
	}
}

// P11.3: beginnings of a part's bytes, also sealed anew, and bytes behind and ahead of them.
func TestBeginningsAndMore(t *testing.T) {
	for _, p := range parts() {
		inside := laid(p)
		s := sealed(inside)
		for n := range s {
			undecoded(t, "a beginning", s[:n])
		}
		for n := range inside {
			undecoded(t, "a beginning, sealed", sealed(inside[:n]))
		}
		for _, more := range []string{"\x00", "\x01", "\x01\x01", "\xff", "\x00\x00\x00\x00", s, inside} {
			undecoded(t, "bytes behind", s+more)
			undecoded(t, "bytes ahead", more+s)
			undecoded(t, "bytes behind, sealed", sealed(inside+more))
			takenJustSo(t, sealed(more+inside)) // its first numbers may be laid otherwise then
			undecoded(t, "sealed, and bytes behind, sealed", sealed(s+more))
		}
	}
	// A change more than the part tells of.
	undecoded(t, "a change more", sealed(laid(part(0, 3, of(0, "a")))+number(1)+text(strings.Repeat("b", 32))))
	undecoded(t, "a change, of none", sealed(laid(part(0, 0))+number(1)+text(strings.Repeat("b", 32))))
	undecoded(t, "many bytes behind", sealed(laid(part(0, 0))+strings.Repeat("\x00", 1<<16)))
}

// P11.3: one byte that is another one, at each place, also with the sum that it then has.
func TestOneByteSpoilt(t *testing.T) {
	for _, p := range []api.Part{part(0, 0), part(1, 2, of(4, "e")), whole()} {
		inside := laid(p)
		s := sealed(inside)
		for at := range s {
			for x := range 256 {
				if byte(x) == s[at] {
					continue
				}
				undecoded(t, "a byte is another one", s[:at]+string([]byte{byte(x)})+s[at+1:])
				if at >= len(inside) {
					continue
				}
				other, is := takenJustSo(t, sealed(inside[:at]+string([]byte{byte(x)})+inside[at+1:]))
				if is && Same(other, p) {
					t.Errorf("% x, with %d at %d, is the same part", s, x, at)
				}
			}
		}
	}
}

// P11.3: a byte too many or too few somewhere.
func TestBytesAmongOthers(t *testing.T) {
	for _, p := range []api.Part{part(0, 0), part(1, 2, of(4, "e")), whole()} {
		inside := laid(p)
		s := sealed(inside)
		for at := range s {
			undecoded(t, "a byte less", s[:at]+s[at+1:])
			for _, x := range []string{"\x00", "\x01", "\x02", "\x20", "a", "\xff"} {
				undecoded(t, "a byte more", s[:at]+x+s[at:])
			}
		}
		for at := range inside {
			takenJustSo(t, sealed(inside[:at]+inside[at+1:]))
			for _, x := range []string{"\x00", "\x01", "\x02", "\x20", "a", "\xff"} {
				takenJustSo(t, sealed(inside[:at]+x+inside[at:]))
			}
		}
	}
}

// P11.3: numbers, and lengths of texts, that are laid longer than they have to be, each in its turn.
func TestNumbersInMoreBytes(t *testing.T) {
	for _, p := range parts() {
		l := tokens(p)
		for i, token := range l {
			ahead, behind := strings.Join(l[:i], ""), strings.Join(l[i+1:], "")
			size := int(token[0])
			for more := 1; size+more <= 9; more++ {
				longer := string([]byte{byte(size + more)}) + strings.Repeat("\x00", more) + token[1:]
				undecoded(t, "zeros ahead of a number", sealed(ahead+longer+behind))
			}
		}
	}
}

// P11.3: each number is another one, in its turn: guids, From, All, how many changes, Blocks, lengths; also too high for an int.
func TestOtherNumbers(t *testing.T) {
	others := []uint64{0, 1, 2, 3, 4, 5, 6, 7, 8, 9, 10, 31, 32, 33, 255, 256, 257, 258, 1<<16 + 1, 1<<31 - 1, 1 << 31, 1<<32 - 1, 1 << 32, 1<<32 + 1, 1<<32 + 2, 1<<32 + 8, 1<<63 - 1, 1 << 63, 1<<63 + 1, 1<<63 + 2, most - 7, most - 1, most}
	for _, p := range []api.Part{part(0, 0), part(0, 1, of(1, "a")), part(0, 8, list(0, 1)...), part(6, 8, list(6, 7)...), whole()} {
		l := tokens(p)
		for i, token := range l {
			ahead, behind := strings.Join(l[:i], ""), strings.Join(l[i+1:], "")
			size := int(token[0]) + 1
			found := 0
			for _, n := range others {
				s := sealed(ahead + number(n) + token[size:] + behind)
				other, is := takenJustSo(t, s)
				if is && Same(other, p) != (number(n) == token[:size]) {
					t.Errorf("with %d for the number %d it is %s", n, i, told(other))
				}
				if is {
					found++
				}
				if is && i >= 4 && n > 8 && n != 32 {
					t.Errorf("with %d for the number %d it is taken: %s", n, i, told(other))
				}
			}
			if found == 0 {
				t.Errorf("no number %d is taken of %s", i, told(p))
			}
		}
	}
}

// P11.3: sealed bytes whose numbers and texts make no part that may be.
func TestPartsThatMayNotBe(t *testing.T) {
	for _, x := range faults() {
		p := whole()
		x.make(&p)
		undecoded(t, x.what, sealed(laid(p)))
	}
	// How many changes there are is told otherwise.
	for n := range 4 {
		for told := range uint64(6) {
			p := part(0, 8, list(0, 2, 4)[:n]...)
			l := tokens(p)
			l[6] = number(told)
			s := sealed(strings.Join(l, ""))
			if told == uint64(n) && (n == 1 || n == 2) {
				encoded(t, "as many as told", p, s)
			} else {
				undecoded(t, fmt.Sprintf("%d changes, and %d are told", n, told), s)
			}
		}
	}
	for _, n := range []uint64{3, 8, 255, 1 << 16, 1<<31 - 1, 1 << 32, 1<<63 - 1, 1 << 63, most} {
		undecoded(t, "far more changes than there are", sealed(strings.Join(tokens(part(0, 8))[:6], "")+number(n)))
	}
	// As many as they say, and still too many.
	for _, n := range []int{3, 8, 300} {
		undecoded(t, "too many changes", sealed(laid(part(0, 8, make([]api.Change, n)...))))
	}
	undecoded(t, "eight changes", sealed(laid(part(0, 8, list(0, 1, 2, 3, 4, 5, 6, 7)...))))
}

// P11.3: texts that are too short or too long, and lengths that are not as many as follow.
func TestTexts(t *testing.T) {
	head := strings.Join(tokens(part(0, 1, of(3, "a")))[:8], "")
	data := strings.Repeat("a", 64)
	for n := range 64 {
		for length := range uint64(64) {
			s := sealed(head + number(length) + data[:n])
			if n == 32 && length == 32 {
				encoded(t, "a text", part(0, 1, of(3, "a")), s)
			} else {
				undecoded(t, fmt.Sprintf("%d bytes, and %d are told", n, length), s)
			}
		}
	}
	for _, length := range []uint64{255, 256, 1 << 32, 1<<32 + 32, 1<<63 - 1, 1 << 63, 1<<63 + 32, most} {
		undecoded(t, "lengths far above", sealed(head+number(length)+data[:32]))
	}
}

// P11.4: parts that are cut one behind the other are together all changes, once, in order; each comes back from its bytes.
func TestOneBehindTheOther(t *testing.T) {
	for bits := range 256 {
		var blocks []int
		for block := range 8 {
			if bits>>block&1 == 1 {
				blocks = append(blocks, block)
			}
		}
		all := list(blocks...)
		for start := range max(1, len(all)) {
			var got []api.Change
			count := 0
			for from := start; count == 0 || from < len(all); count++ {
				p, e := Cut(one, two, all, from)
				if e != api.OK || p.From != from || p.All != len(all) || len(p.Changes) == 0 && len(all) > 0 {
					t.Fatalf("%v from %d: %s, %d", blocks, from, told(p), e)
				}
				encoded(t, "a part", p, sealed(laid(p)))
				s, _ := Encode(p)
				q, _ := Decode(s)
				got = append(got, q.Changes...)
				from += len(p.Changes)
			}
			if want := max(1, (len(all)-start+1)/2); count != want || !slices.Equal(got, all[start:]) {
				t.Errorf("%v from %d: %d parts, %s", blocks, start, count, toldChanges(got))
			}
		}
	}
}

// P11.4: what makes a snapshot of the one ahead of it, in parts, makes the same one of another chain.
func TestSnapshotInParts(t *testing.T) {
	one, two := guid(1, 1), guid(2, 1)
	ours, others := chain.New(5), chain.New(5)
	for block := range 4 {
		ours.Write(block, strings.Repeat("a", 32))
	}
	ours.Snap(one)
	for _, block := range []int{0, 2, 4} {
		ours.Write(block, strings.Repeat("b", 32))
	}
	ours.Snap(two)
	base := none
	for n, target := range ours.List() {
		changes, _ := ours.Changes(n)
		var got []api.Change
		for from := 0; from < len(changes); {
			p, _ := Cut(base, target, changes, from)
			s, _ := Encode(p)
			q, e := Decode(s)
			if e != api.OK || q.Base != base || q.Target != target || q.From != len(got) {
				t.Fatalf("the snapshot %d from %d: %s, %d", n, from, told(q), e)
			}
			got = append(got, q.Changes...)
			from += len(q.Changes)
		}
		is(t, "Add", others.Add(target, got), api.OK)
		base = target
	}
	for _, g := range []api.Guid{one, two} {
		a, _ := ours.Read(g)
		b, e := others.Read(g)
		if !slices.Equal(a, b) || e != api.OK {
			t.Errorf("%v: %q, %q", g, a, b)
		}
	}
}

// draws answers a draw from 0 on, below what it is asked for, from a short rule, so that each run does the same.
func draws(seed uint64) func(n int) int {
	return func(n int) int {
		seed = seed*6364136223846793005 + 1442695040888963407
		return int(seed >> 33 % uint64(n))
	}
}

// drawn answers a part that often may be.
func drawn(draw func(n int) int) api.Part {
	p := api.Part{Base: guid(uint64(draw(3)), uint64(draw(3))), All: draw(9) + draw(12)/11}
	p.Target = guid(p.Base.Epoch+uint64(draw(2)), uint64(draw(4)))
	p.From = draw(p.All+1) - draw(12)/11
	block := draw(4)
	for range draw(3) + draw(8)/7 {
		p.Changes = append(p.Changes, api.Change{Block: block - draw(20)/19, Data: strings.Repeat(string(rune('a'+block)), 32+draw(20)/19)})
		block += 1 + draw(4)
	}
	return p
}

// P11.1 to P11.4: many parts, held against what the chapter tells.
func TestManyParts(t *testing.T) {
	found := map[bool]int{}
	for seed := range uint64(20000) {
		p := drawn(draws(seed))
		want := isPart(p)
		found[want]++
		checks(t, "drawn", p, errorOf(want))
		if want {
			encoded(t, "drawn", p, sealed(laid(p)))
			same(t, "drawn", p, clone(p), true)
		} else {
			// Its numbers and texts, laid all the same, are no part's.
			undecoded(t, "drawn", sealed(laid(p)))
		}
		from := p.From
		if areChanges(p.Changes) && isAbove(p.Target, p.Base) && from >= 0 && (from < len(p.Changes) || from == 0) {
			n := min(from+2, len(p.Changes))
			cut(t, "drawn", p.Base, p.Target, p.Changes, from, api.Part{Base: p.Base, Target: p.Target, From: from, All: len(p.Changes), Changes: p.Changes[from:n:n]})
		} else {
			refused(t, "drawn", p.Base, p.Target, p.Changes, from)
		}
	}
	if found[true] < 2000 || found[false] < 2000 {
		t.Errorf("the draws say little: %v", found)
	}
}

// R6: the same calls answer the same, whatever was asked between them.
func TestAgain(t *testing.T) {
	all := list(0, 2, 3, 5, 7)
	p, e := Cut(none, one, all, 1)
	s, f := Encode(p)
	for _, other := range parts() {
		Encode(other)
		Decode(sealed(laid(other)))
		Cut(other.Base, other.Target, other.Changes, 0)
		q, g := Cut(none, one, all, 1)
		its, h := Encode(q)
		if told(q) != told(p) || its != s || g != e || h != f {
			t.Fatalf("%s, % x, not %s, % x", told(q), its, told(p), s)
		}
	}
}

// FuzzDecode asks that bytes, as they are and sealed, are none's, or those of a part that is laid just so.
func FuzzDecode(f *testing.F) {
	for _, p := range parts() {
		f.Add(laid(p))
		f.Add(sealed(laid(p)))
	}
	f.Add("")
	f.Add("\x08\xff\xff\xff\xff\xff\xff\xff\xff")
	f.Fuzz(func(t *testing.T, s string) {
		takenJustSo(t, s)
		takenJustSo(t, sealed(s))
	})
}

// What README.md says of the package.
func Example() {
	a, b := strings.Repeat("a", 32), strings.Repeat("b", 32)
	one, two := api.Guid{Epoch: 1, Count: 1}, api.Guid{Epoch: 1, Count: 2}
	all := []api.Change{{Block: 0, Data: a}, {Block: 3, Data: b}, {Block: 7, Data: a}}
	p, e := Cut(one, two, all, 0)
	fmt.Println(p.From, p.All, len(p.Changes), e)
	q, e := Cut(one, two, all, 2)
	fmt.Println(q.From, q.All, len(q.Changes), e)
	_, e = Cut(one, two, all, 3)
	fmt.Println(e)
	fmt.Println(Check(p))
	s, e := Encode(p)
	fmt.Println(len(s), e)
	its, e := Decode(s)
	fmt.Println(Same(its, p), Same(its, q), e)
	_, e = Decode("x" + s[1:])
	fmt.Println(e)
	p.From = 2
	fmt.Println(Check(p))
	// Output:
	// 0 3 2 stemma: 0
	// 2 3 1 stemma: 0
	// stemma: 2
	// stemma: 0
	// 88 stemma: 0
	// true false stemma: 0
	// stemma: 4
	// stemma: 2
}
