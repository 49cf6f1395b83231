package meta

import (
	"encoding/hex"
	"fmt"
	"math"
	"slices"
	"strings"
	"testing"

	"stemma/api"
)

// guid answers the guid of that epoch and count.
func guid(epoch, count uint64) api.Guid { return api.Guid{Epoch: epoch, Count: count} }

// most is the greatest number of a guid.
const most = math.MaxUint64

// clone answers the same table in memory of its own.
func clone(m api.Meta) api.Meta {
	m.Live = slices.Clone(m.Live)
	m.Snaps = slices.Clone(m.Snaps)
	for i := range m.Snaps {
		m.Snaps[i].Image = slices.Clone(m.Snaps[i].Image)
	}
	m.Token.Image = slices.Clone(m.Token.Image)
	return m
}

// told answers a table as a text, that is another one for each other table.
func told(m api.Meta) string { return fmt.Sprintf("%+v", m) }

// whole answers a table of three blocks, with all that there can be, on a disk of 400 sectors.
func whole() api.Meta {
	return api.Meta{
		Live: []int{193, 0, 399},
		Snaps: []api.Snap{
			{Guid: guid(5, 1), Image: []int{0, 0, 0}},
			{Guid: guid(5, 3), Image: []int{193, 256, 0}, Hidden: true},
			{Guid: guid(7, 2), Image: []int{193, 257, 300}},
		},
		Token: api.Token{Base: guid(7, 2), Target: guid(7, 3), Next: 1, All: 3, Image: []int{193, 258, 300}},
	}
}

// wholeBytes are its bytes.
const wholeBytes = "01 03 01 c1 00 02 01 8f" +
	" 01 03" +
	" 01 05 01 01 00 00 00 00" +
	" 01 05 01 03 01 01 01 c1 02 01 00 00" +
	" 01 07 01 02 00 01 c1 02 01 01 02 01 2c" +
	" 01 01 01 07 01 02 01 07 01 03 01 01 01 03 01 c1 02 01 02 02 01 2c"

// imageOf answers as many places, one behind the other from at on.
func imageOf(blocks, at int) []int {
	l := make([]int, blocks)
	for i := range l {
		l[i] = at + i
	}
	return l
}

// grown answers a table of so many blocks and snapshots, without a token; each third snapshot is hidden.
func grown(blocks, snaps int) api.Meta {
	m := api.Meta{Live: imageOf(blocks, 193)}
	for i := range snaps {
		m.Snaps = append(m.Snaps, api.Snap{Guid: guid(uint64(1+i/4), uint64(1+i)), Image: imageOf(blocks, 193+i), Hidden: i%3 == 2})
	}
	return m
}

// withToken answers the table with a token that asks for the last one of all changes; of one block there can be none.
func withToken(m api.Meta) api.Meta {
	m.Token = api.Token{Base: lastOf(m), Target: guid(most, most), Next: len(m.Live) - 1, All: len(m.Live), Image: imageOf(len(m.Live), 700)}
	return m
}

// lastOf answers the last snapshot's guid, that of none without snapshots.
func lastOf(m api.Meta) api.Guid {
	if len(m.Snaps) == 0 {
		return guid(0, 0)
	}
	return m.Snaps[len(m.Snaps)-1].Guid
}

// largest answers the table that takes the most bytes.
func largest() api.Meta {
	m := api.Meta{Live: imageOf(8, 1016)}
	for i := range uint64(20) {
		m.Snaps = append(m.Snaps, api.Snap{Guid: guid(most, most-20+i), Image: imageOf(8, 1000), Hidden: true})
	}
	m.Token = api.Token{Base: guid(most, most-1), Target: guid(most, most), Next: 7, All: 8, Image: imageOf(8, 1016)}
	return m
}

// tables answers tables that may be, on a disk of 1024 sectors.
func tables() []api.Meta {
	l := []api.Meta{whole(), largest(), {Live: []int{0}}, {Live: []int{0, 193}}, {Live: make([]int, 8)}}
	for _, blocks := range []int{1, 2, 5, 8} {
		for _, snaps := range []int{0, 1, 2, 7, 20} {
			m := grown(blocks, snaps)
			l = append(l, m)
			if blocks > 1 {
				l = append(l, withToken(m))
			}
		}
	}
	zeros := withToken(grown(2, 1))
	zeros.Token.Image = []int{0, 0}
	return append(l, zeros)
}

// is asks that a call's error is that one.
func is(t *testing.T, what string, got, want api.Errno) {
	t.Helper()
	if got != want {
		t.Errorf("%s: %d, not %d", what, got, want)
	}
}

// checks asks what Check answers, and that the table is then what it was.
func checks(t *testing.T, what string, m api.Meta, blocks, n int, want api.Errno) {
	t.Helper()
	was := told(m)
	is(t, fmt.Sprintf("%s: Check(%s, %d, %d)", what, was, blocks, n), Check(m, blocks, n), want)
	if told(m) != was {
		t.Errorf("%s: Check made %s of %s", what, told(m), was)
	}
}

// encoded asks that the table's bytes are these, that it is then what it was, and that it comes back from them.
func encoded(t *testing.T, what string, m api.Meta, want string) {
	t.Helper()
	was := told(m)
	s, e := Encode(m)
	if s != want || e != api.OK {
		t.Errorf("%s: Encode(%s): % x, %d, not % x", what, was, s, e, want)
	}
	if told(m) != was {
		t.Errorf("%s: Encode made %s of %s", what, told(m), was)
	}
	its, e := Decode(want)
	if told(its) != was || e != api.OK {
		t.Errorf("%s: Decode(% x): %s, %d, not %s", what, want, told(its), e, was)
	}
}

// unencoded asks that the table has no bytes, for that error.
func unencoded(t *testing.T, what string, m api.Meta, want api.Errno) {
	t.Helper()
	was := told(m)
	if s, e := Encode(m); s != "" || e != want {
		t.Errorf("%s: Encode(%s): % x, %d, not %d", what, was, s, e, want)
	}
	if told(m) != was {
		t.Errorf("%s: Encode made %s of %s", what, told(m), was)
	}
}

// undecoded asks that these are no table's bytes, and that beside the error the table is empty.
func undecoded(t *testing.T, what string, s string) {
	t.Helper()
	m, e := Decode(s)
	if told(m) != told(api.Meta{}) || e != api.ErrForm {
		t.Errorf("%s: Decode(% x): %s, %d, not ErrForm", what, s, told(m), e)
	}
}

// bytesOf reads digits, with blanks between them.
func bytesOf(t *testing.T, digits string) string {
	t.Helper()
	b, err := hex.DecodeString(strings.ReplaceAll(digits, " ", ""))
	if err != nil {
		t.Fatal(err)
	}
	return string(b)
}

// numbersOf answers the numbers whose bytes are a table's, as the chapter tells them one by one.
func numbersOf(m api.Meta) []uint64 {
	var l []uint64
	image := func(places []int) {
		for _, at := range places {
			l = append(l, uint64(at))
		}
	}
	l = append(l, uint64(len(m.Live)))
	image(m.Live)
	l = append(l, uint64(len(m.Snaps)))
	for _, s := range m.Snaps {
		l = append(l, s.Guid.Epoch, s.Guid.Count)
		if s.Hidden {
			l = append(l, 1)
		} else {
			l = append(l, 0)
		}
		image(s.Image)
	}
	t := m.Token
	if t.Base == guid(0, 0) && t.Target == guid(0, 0) && t.Next == 0 && t.All == 0 && len(t.Image) == 0 {
		return append(l, 0)
	}
	l = append(l, 1, t.Base.Epoch, t.Base.Count, t.Target.Epoch, t.Target.Count, uint64(t.Next), uint64(t.All))
	image(t.Image)
	return l
}

// laid answers the numbers' bytes.
func laid(numbers []uint64) string {
	var b []byte
	for _, n := range numbers {
		at := len(b)
		b = append(b, 0)
		for places := 56; places >= 0; places -= 8 {
			if d := n >> places; d != 0 {
				b = append(b, byte(d))
			}
		}
		b[at] = byte(len(b) - at - 1)
	}
	return string(b)
}

// imageError answers the error of an image, as layer 7 tells it.
func imageError(image []int, blocks, n int) api.Errno {
	if blocks < 1 || blocks > 8 || len(image) != blocks {
		return api.ErrArg
	}
	for _, at := range image {
		if at != 0 && (at < 193 || at >= n) {
			return api.ErrArg
		}
	}
	for i, at := range image {
		if at != 0 && slices.Contains(image[:i], at) {
			return api.ErrTwice
		}
	}
	return api.OK
}

// isAbove tells whether g is above other.
func isAbove(g, other api.Guid) bool {
	return g.Epoch > other.Epoch || g.Epoch == other.Epoch && g.Count > other.Count
}

// tableError answers the error of a table, as the chapter tells it: the first one of all that there are.
func tableError(m api.Meta, blocks, n int) api.Errno {
	errors := []api.Errno{imageError(m.Live, blocks, n)}
	ask := func(holds bool, e api.Errno) {
		if holds {
			e = api.OK
		}
		errors = append(errors, e)
	}
	ask(len(m.Snaps) <= 20, api.ErrLong)
	for i, s := range m.Snaps {
		ask(s.Guid != guid(0, 0), api.ErrArg)
		ask(i == 0 || isAbove(s.Guid, m.Snaps[max(i, 1)-1].Guid), api.ErrArg)
		errors = append(errors, imageError(s.Image, blocks, n))
	}
	t := m.Token
	if t.Base != guid(0, 0) || t.Target != guid(0, 0) || t.Next != 0 || t.All != 0 || len(t.Image) != 0 {
		ask(t.Base == lastOf(m), api.ErrArg)
		ask(isAbove(t.Target, t.Base), api.ErrArg)
		ask(t.Next >= 1 && t.All > t.Next && t.All <= blocks, api.ErrArg)
		errors = append(errors, imageError(t.Image, blocks, n))
	}
	for _, e := range errors {
		if e != api.OK {
			return e
		}
	}
	return api.OK
}

// The chapter's table, row by row.
func TestExamples(t *testing.T) {
	encoded(t, "Live 0", api.Meta{Live: []int{0}}, bytesOf(t, "01 01 00 00 00"))
	one := api.Meta{Live: []int{193}, Snaps: []api.Snap{{Guid: guid(1, 2), Image: []int{193}}}}
	encoded(t, "Live 193", one, bytesOf(t, "01 01 01 c1 01 01 01 01 01 02 00 01 c1 00"))

	checks(t, "Live 193 193", api.Meta{Live: []int{193, 193}}, 2, 1024, api.ErrTwice)
	snap := func(g api.Guid) api.Snap { return api.Snap{Guid: g, Image: []int{0, 0}} }
	live := []int{0, 0}
	checks(t, "a snapshot 0.0", api.Meta{Live: live, Snaps: []api.Snap{snap(guid(0, 0))}}, 2, 1024, api.ErrArg)
	checks(t, "snapshots 1.2, 1.1", api.Meta{Live: live, Snaps: []api.Snap{snap(guid(1, 2)), snap(guid(1, 1))}}, 2, 1024, api.ErrArg)
	token := api.Token{Target: guid(1, 1), Next: 1, All: 1, Image: live}
	checks(t, "a token with Next 1, All 1", api.Meta{Live: live, Token: token}, 2, 1024, api.ErrArg)
	token.All = 2
	checks(t, "a token with Next 1, All 2", api.Meta{Live: live, Token: token}, 2, 1024, api.OK)
}

// P9.2: the bytes of a table with all that there can be, one by one.
func TestWholeBytes(t *testing.T) {
	encoded(t, "all that there can be", whole(), bytesOf(t, wholeBytes))
	m := whole()
	m.Token = api.Token{}
	s := bytesOf(t, wholeBytes)
	token := bytesOf(t, "01 01 01 07 01 02 01 07 01 03 01 01 01 03 01 c1 02 01 02 02 01 2c")
	encoded(t, "without a token", m, strings.TrimSuffix(s, token)+"\x00")
	m.Snaps = nil
	encoded(t, "without snapshots", m, bytesOf(t, "01 03 01 c1 00 02 01 8f 00 00"))
}

// fault is something that may not be in a table, and its error.
type fault struct {
	what string
	want api.Errno
	make func(m *api.Meta)
}

// behind answers the n-th snapshot from the end.
func behind(m *api.Meta, n int) *api.Snap { return &m.Snaps[len(m.Snaps)-n] }

// faults answers what may not be in the whole table, in the order in which the chapter asks; any two can be there at once.
func faults() []fault {
	l := []fault{
		{"a place of the live image", api.ErrArg, func(m *api.Meta) { m.Live[1] = 192 }},
		{"the live image's places twice", api.ErrTwice, func(m *api.Meta) { m.Live[0] = m.Live[2] }},
		{"too many snapshots", api.ErrLong, func(m *api.Meta) {
			var more []api.Snap
			for i := range uint64(18) {
				more = append(more, api.Snap{Guid: guid(1, i+1), Image: []int{0, 0, 0}})
			}
			m.Snaps = append(more, m.Snaps...)
		}},
	}
	for n := 3; n >= 1; n-- {
		what := fmt.Sprintf("%d from the end: ", n)
		l = append(l,
			fault{what + "a guid of zeros", api.ErrArg, func(m *api.Meta) { behind(m, n).Guid = guid(0, 0) }},
			fault{what + "a place", api.ErrArg, func(m *api.Meta) { behind(m, n).Image[1] = 1024 }},
			fault{what + "places twice", api.ErrTwice, func(m *api.Meta) { behind(m, n).Image[0], behind(m, n).Image[2] = 350, 350 }})
	}
	return append(l,
		fault{"the token's Base", api.ErrArg, func(m *api.Meta) { m.Token.Base = guid(7, 1) }},
		fault{"the token's Target", api.ErrArg, func(m *api.Meta) { m.Token.Target = guid(7, 2) }},
		fault{"the token's Next", api.ErrArg, func(m *api.Meta) { m.Token.Next = 0 }},
		fault{"the token's All", api.ErrArg, func(m *api.Meta) { m.Token.All = 4 }},
		fault{"a place of the token", api.ErrArg, func(m *api.Meta) { m.Token.Image[1] = -1 }},
		fault{"the token's places twice", api.ErrTwice, func(m *api.Meta) { m.Token.Image[0] = m.Token.Image[2] }})
}

// P9.1, R2: each error of Check, and of any two at once the first one; and Encode has the same ones.
func TestErrorsInOrder(t *testing.T) {
	checks(t, "none", whole(), 3, 400, api.OK)
	all := faults()
	for i, first := range all {
		alone := whole()
		first.make(&alone)
		checks(t, first.what, alone, 3, 400, first.want)
		for _, second := range all[i+1:] {
			m := whole()
			first.make(&m)
			second.make(&m)
			checks(t, first.what+", "+second.what, m, 3, 400, first.want)
			m = whole()
			second.make(&m)
			first.make(&m)
			checks(t, second.what+", "+first.what, m, 3, 400, first.want)
			// For Encode a disk has 1024 sectors.
			unencoded(t, second.what+", "+first.what, m, tableError(m, 3, 1024))
		}
	}
}

// P9.1: an error of the live image comes ahead of too many snapshots, whatever they are.
func TestLiveAheadOfTooMany(t *testing.T) {
	for _, n := range []int{21, 22, 100} {
		m := grown(2, n)
		checks(t, "too many", m, 2, 1024, api.ErrLong)
		checks(t, "too many, of another number of blocks", m, 3, 1024, api.ErrArg)
		checks(t, "too many, of no number of blocks", m, 9, 1024, api.ErrArg)
		m.Live = []int{193, 193}
		checks(t, "too many, and twice", m, 2, 1024, api.ErrTwice)
		m.Live = []int{193, 1024}
		checks(t, "too many, and a place", m, 2, 1024, api.ErrArg)
		unencoded(t, "too many, and a place", m, api.ErrArg)
		m.Live = nil
		checks(t, "too many, and no live image", m, 2, 1024, api.ErrArg)
		unencoded(t, "too many, and no live image", m, api.ErrArg)
	}
}

// P9.1: how many snapshots there may be, and that too many are told ahead of what each one is.
func TestHowManySnapshots(t *testing.T) {
	for n := range 21 {
		checks(t, "snapshots", grown(1, n), 1, 1024, api.OK)
		checks(t, "snapshots", grown(8, n), 8, 1024, api.OK)
		checks(t, "snapshots, and a token", withToken(grown(8, n)), 8, 1024, api.OK)
	}
	for _, n := range []int{21, 22, 40, 256, 1 << 12} {
		checks(t, "too many", grown(1, n), 1, 5000, api.ErrLong)
		checks(t, "too many, and a token", withToken(grown(8, n)), 8, 5000, api.ErrLong)
		checks(t, "too many of zeros", api.Meta{Live: []int{0}, Snaps: make([]api.Snap, n)}, 1, 1024, api.ErrLong)
		m := grown(1, n)
		m.Token.Next = 7
		checks(t, "too many, and no token", m, 1, 5000, api.ErrLong)
		unencoded(t, "too many", grown(1, n), api.ErrLong)
	}
	checks(t, "twenty of zeros", api.Meta{Live: []int{0}, Snaps: make([]api.Snap, 20)}, 1, 1024, api.ErrArg)
}

// pairs are guids, and whether the second one is above the first one.
var pairs = []struct {
	first, second api.Guid
	is            bool
}{
	{guid(1, 1), guid(1, 2), true},
	{guid(1, 1), guid(2, 1), true},
	{guid(1, 9), guid(2, 1), true},
	{guid(1, 9), guid(2, 0), true},
	{guid(1, most), guid(2, 0), true},
	{guid(0, 1), guid(0, 2), true},
	{guid(0, 1), guid(1, 0), true},
	{guid(1, 0), guid(1, 1), true},
	{guid(0, most), guid(1, 0), true},
	{guid(most, most-1), guid(most, most), true},
	{guid(most-1, most), guid(most, 0), true},
	{guid(1<<63-1, 1), guid(1<<63, 1), true},
	{guid(1, 1<<63-1), guid(1, 1<<63), true},
	{guid(1, 1<<32-1), guid(1, 1<<32), true},
	{guid(1, 1), guid(most, most), true},
	{guid(1, 1), guid(1, 1), false},
	{guid(1, 2), guid(1, 1), false},
	{guid(2, 1), guid(1, 1), false},
	{guid(2, 1), guid(1, 9), false},
	{guid(2, 0), guid(1, most), false},
	{guid(1, 0), guid(0, most), false},
	{guid(1, 1), guid(1, 0), false},
	{guid(1, 1), guid(0, 9), false},
	{guid(1, 1), guid(0, 0), false},
	{guid(most, most), guid(most, most), false},
	{guid(most, most), guid(most, most-1), false},
	{guid(most, most), guid(0, 0), false},
	{guid(1<<63, 1), guid(1<<63-1, 1), false},
	{guid(1, 1<<63), guid(1, 1<<63-1), false},
}

// errorOf answers OK or ErrArg.
func errorOf(holds bool) api.Errno {
	if holds {
		return api.OK
	}
	return api.ErrArg
}

// P9.1: each snapshot's guid is above the one ahead of it, hidden or not; a token's Target above that of the last one.
func TestGuids(t *testing.T) {
	for _, x := range pairs {
		for _, hidden := range []bool{false, true} {
			m := api.Meta{Live: []int{0, 0}, Snaps: []api.Snap{{Guid: x.first, Image: []int{0, 0}, Hidden: hidden}}}
			checks(t, "one", m, 2, 1024, api.OK)
			two := clone(m)
			two.Snaps = append(two.Snaps, api.Snap{Guid: x.second, Image: []int{0, 0}, Hidden: hidden})
			checks(t, "two", two, 2, 1024, errorOf(x.is))
			m.Token = api.Token{Base: x.first, Target: x.second, Next: 1, All: 2, Image: []int{0, 0}}
			checks(t, "a token", m, 2, 1024, errorOf(x.is))
		}
	}
	// Each of twenty, in its turn: a guid of zeros, that of the one ahead, and one below that.
	for n := range 20 {
		for _, g := range []api.Guid{guid(0, 0), guid(1, 1), guid(0, most)} {
			m := grown(1, 20)
			m.Snaps[n].Guid = g
			checks(t, fmt.Sprintf("the snapshot %d", n), m, 1, 1024, errorOf(n == 0 && g != guid(0, 0)))
		}
	}
}

// P9.1: each snapshot's image, hidden ones too.
func TestSnapshotImages(t *testing.T) {
	images := []struct {
		image []int
		want  api.Errno
	}{
		{[]int{0, 0, 0}, api.OK},
		{[]int{193, 0, 0}, api.OK},
		{[]int{499, 498, 193}, api.OK},
		{[]int{0, 192, 0}, api.ErrArg},
		{[]int{0, 0, 500}, api.ErrArg},
		{[]int{-1, 0, 0}, api.ErrArg},
		{[]int{math.MinInt, 0, 0}, api.ErrArg},
		{[]int{0, 0, math.MaxInt}, api.ErrArg},
		{[]int{193, 0, 193}, api.ErrTwice},
		{[]int{0, 499, 499}, api.ErrTwice},
		{[]int{193, 193, 500}, api.ErrArg},
		{[]int{193, 193}, api.ErrArg},
		{[]int{0, 0}, api.ErrArg},
		{[]int{0, 0, 0, 0}, api.ErrArg},
		{[]int{}, api.ErrArg},
		{nil, api.ErrArg},
	}
	for _, x := range images {
		for _, hidden := range []bool{false, true} {
			for n := range 20 {
				m := grown(3, 20)
				m.Snaps[n].Image, m.Snaps[n].Hidden = x.image, hidden
				checks(t, fmt.Sprintf("of the snapshot %d", n), m, 3, 500, x.want)
			}
		}
		m := grown(3, 2)
		m.Live = x.image
		checks(t, "of the live volume", m, 3, 500, x.want)
		m = withToken(grown(3, 2))
		m.Token.Image = x.image
		checks(t, "of the token", m, 3, 500, x.want)
	}
}

// P9.1: how many blocks there are, and how many sectors.
func TestBlocksAndSectors(t *testing.T) {
	for blocks := 1; blocks <= 8; blocks++ {
		m := grown(blocks, 2)
		checks(t, "enough sectors", m, blocks, 194+blocks, api.OK)
		checks(t, "a sector less", m, blocks, 193+blocks, api.ErrArg)
		for _, other := range []int{math.MinInt, -1, 0, blocks - 1, blocks + 1, 9, 1 << 32, 1<<32 + blocks, math.MaxInt} {
			checks(t, "of another number of blocks", m, other, 1024, api.ErrArg)
		}
		for _, n := range []int{math.MinInt, -1, 0, 1, 193} {
			checks(t, "too few sectors", m, blocks, n, api.ErrArg)
			checks(t, "all zeros", api.Meta{Live: make([]int, blocks)}, blocks, n, api.OK)
		}
		checks(t, "more sectors than disks have", m, blocks, math.MaxInt, api.OK)
	}
	for _, n := range []int{0, 9, 10, 100} {
		checks(t, "no number of blocks", api.Meta{Live: make([]int, n)}, n, 1024, api.ErrArg)
	}
	checks(t, "no live image", api.Meta{}, 0, 1024, api.ErrArg)
	checks(t, "no live image", api.Meta{}, 1, 1024, api.ErrArg)
}

// P9.1: a token that is none, and those that are none but for one field.
func TestNoToken(t *testing.T) {
	fields := []func(k *api.Token){
		func(k *api.Token) { k.Base.Epoch = 1 },
		func(k *api.Token) { k.Base.Count = 1 },
		func(k *api.Token) { k.Target.Epoch = 9 },
		func(k *api.Token) { k.Target.Count = 9 },
		func(k *api.Token) { k.Target = guid(9, 9) },
		func(k *api.Token) { k.Next = 1 },
		func(k *api.Token) { k.Next = -1 },
		func(k *api.Token) { k.All = 2 },
		func(k *api.Token) { k.All = -1 },
		func(k *api.Token) { k.Image = []int{0} },
		func(k *api.Token) { k.Image = []int{0, 0} },
		func(k *api.Token) { k.Image = []int{193, 194} },
		func(k *api.Token) { k.Image = []int{193, 193} },
	}
	for _, n := range []int{0, 1, 2, 20} {
		m := grown(2, n)
		checks(t, "none", m, 2, 1024, api.OK)
		m.Token = api.Token{Image: []int{}}
		checks(t, "none, with an empty list", m, 2, 1024, api.OK)
		m.Token = api.Token{Base: lastOf(m)}
		checks(t, "with a Base", m, 2, 1024, errorOf(n == 0))
		for i, set := range fields {
			m.Token = api.Token{}
			set(&m.Token)
			checks(t, fmt.Sprintf("none but for the field %d", i), m, 2, 1024, api.ErrArg)
			unencoded(t, "none but for a field", m, api.ErrArg)
		}
	}
}

// P9.1: what is a token, but for one field that is zero.
func TestTokenWithoutAField(t *testing.T) {
	for i, x := range []struct {
		unset func(k *api.Token)
		want  api.Errno
	}{
		{func(k *api.Token) { k.Base = guid(0, 0) }, api.ErrArg},
		{func(k *api.Token) { k.Base.Epoch = 0 }, api.ErrArg},
		{func(k *api.Token) { k.Base.Count = 0 }, api.ErrArg},
		{func(k *api.Token) { k.Target = guid(0, 0) }, api.ErrArg},
		{func(k *api.Token) { k.Target.Epoch = 0 }, api.ErrArg},
		{func(k *api.Token) { k.Target.Epoch = 8; k.Target.Count = 0 }, api.OK},
		{func(k *api.Token) { k.Next = 0 }, api.ErrArg},
		{func(k *api.Token) { k.All = 0 }, api.ErrArg},
		{func(k *api.Token) { k.Image = nil }, api.ErrArg},
	} {
		m := whole()
		x.unset(&m.Token)
		checks(t, fmt.Sprintf("without the field %d", i), m, 3, 400, x.want)
	}
}

// P9.1: a token's Base is the last snapshot's guid, hidden or not; zeros, if there is none.
func TestBase(t *testing.T) {
	for _, n := range []int{0, 1, 2, 3, 20} {
		for _, hidden := range []bool{false, true} {
			m := withToken(grown(2, n))
			if n > 0 {
				m.Snaps[n-1].Hidden = hidden
			}
			last := lastOf(m)
			bases := []api.Guid{guid(0, 0), guid(0, 1), guid(1, 0), guid(1, 1), guid(1, 2), last, guid(last.Epoch, last.Count+1), guid(last.Epoch, last.Count-1), guid(last.Epoch+1, last.Count), guid(last.Epoch-1, last.Count), guid(last.Count, last.Epoch), guid(most, most-1), guid(most, most)}
			for _, s := range m.Snaps {
				bases = append(bases, s.Guid)
			}
			for _, g := range bases {
				m.Token.Base = g
				checks(t, fmt.Sprintf("of %d snapshots", n), m, 2, 1024, errorOf(g == last))
			}
		}
	}
}

// P9.1: a token's Target is above its Base, also where there are no snapshots.
func TestTarget(t *testing.T) {
	m := withToken(grown(2, 0))
	for _, g := range []api.Guid{guid(0, 1), guid(1, 0), guid(1, 1), guid(most, most)} {
		m.Token.Target = g
		checks(t, "above none", m, 2, 1024, api.OK)
	}
	m.Token.Target = guid(0, 0)
	checks(t, "not above none", m, 2, 1024, api.ErrArg)
	// Not above the last one, if above those ahead of it.
	m = withToken(grown(2, 20))
	for _, s := range m.Snaps {
		m.Token.Target = s.Guid
		checks(t, "a snapshot's", m, 2, 1024, api.ErrArg)
		m.Token.Target.Count++
		checks(t, "behind a snapshot's", m, 2, 1024, errorOf(s.Guid == lastOf(m)))
	}
}

// P9.1: all Next and All, of all numbers of blocks.
func TestNextAndAll(t *testing.T) {
	numbers := []int{math.MinInt, math.MinInt32, -8, -1}
	for n := range 20 {
		numbers = append(numbers, n)
	}
	numbers = append(numbers, 255, 256, 257, 258, 1<<32, 1<<32+1, 1<<32+2, math.MaxInt-1, math.MaxInt)
	for blocks := 1; blocks <= 8; blocks++ {
		for _, next := range numbers {
			for _, all := range numbers {
				m := grown(blocks, 1)
				m.Token = api.Token{Base: lastOf(m), Target: guid(9, 9), Next: next, All: all, Image: make([]int, blocks)}
				want := errorOf(next >= 1 && next < all && all <= blocks)
				checks(t, "Next and All", m, blocks, 1024, want)
				if want == api.OK {
					encoded(t, "Next and All", m, laid(numbersOf(m)))
				} else {
					unencoded(t, "Next and All", m, api.ErrArg)
				}
			}
		}
	}
}

// numberFields answers each number of the table that is no guid's, so that it can be set.
func numberFields(m *api.Meta) []*int {
	var l []*int
	image := func(places []int) {
		for i := range places {
			l = append(l, &places[i])
		}
	}
	image(m.Live)
	for _, s := range m.Snaps {
		image(s.Image)
	}
	image(m.Token.Image)
	return append(l, &m.Token.Next, &m.Token.All)
}

// P9.1, P9.2, R1: numbers that are negative, at an edge, or far too large, in every field.
func TestNumbersInEachField(t *testing.T) {
	m := whole()
	for i := range numberFields(&m) {
		for _, n := range []int{math.MinInt, math.MinInt + 1, -1 << 32, -1024, -193, -2, -1, 0, 1, 2, 3, 4, 8, 9, 192, 193, 194, 300, 399, 400, 401, 1023, 1024, 1025, 1 << 16, 1 << 32, 1<<32 + 193, math.MaxInt - 1, math.MaxInt} {
			m := whole()
			*numberFields(&m)[i] = n
			what := fmt.Sprintf("%d in the field %d", n, i)
			checks(t, what, m, 3, 400, tableError(m, 3, 400))
			if e := tableError(m, 3, 1024); e != api.OK {
				unencoded(t, what, m, e)
			} else {
				encoded(t, what, m, laid(numbersOf(m)))
			}
		}
	}
}

// P9.2: tables of all numbers of blocks, and of none.
func TestEncodeBlocks(t *testing.T) {
	for blocks := 1; blocks <= 8; blocks++ {
		m := api.Meta{Live: make([]int, blocks)}
		encoded(t, "zeros", m, "\x01"+string(rune(blocks))+strings.Repeat("\x00", blocks+2))
		m = grown(blocks, 3)
		encoded(t, "three snapshots", m, laid(numbersOf(m)))
	}
	for _, n := range []int{9, 10, 16, 255, 256, 257, 1 << 16} {
		unencoded(t, "too many blocks", api.Meta{Live: make([]int, n)}, api.ErrArg)
	}
	unencoded(t, "no blocks", api.Meta{}, api.ErrArg)
	unencoded(t, "no blocks", api.Meta{Live: []int{}}, api.ErrArg)
	unencoded(t, "no blocks, and snapshots", api.Meta{Snaps: []api.Snap{{Guid: guid(1, 1)}}}, api.ErrArg)
	unencoded(t, "no blocks, and too many snapshots", api.Meta{Snaps: make([]api.Snap, 21)}, api.ErrArg)
}

// P9.2: a disk has 1024 sectors for Encode, and as many blocks as the live image.
func TestEncodeAsks(t *testing.T) {
	for _, x := range []struct {
		at   int
		want api.Errno
	}{{192, api.ErrArg}, {193, api.OK}, {1023, api.OK}, {1024, api.ErrArg}, {1025, api.ErrArg}} {
		m := api.Meta{Live: []int{x.at}}
		if x.want == api.OK {
			encoded(t, "a place", m, laid(numbersOf(m)))
		} else {
			unencoded(t, "a place", m, x.want)
		}
	}
	m := grown(2, 1)
	m.Live = append(m.Live, 300)
	unencoded(t, "a snapshot of fewer blocks", m, api.ErrArg)
	m.Live = m.Live[:1]
	unencoded(t, "a snapshot of more blocks", m, api.ErrArg)
	m = withToken(grown(2, 0))
	m.Live = append(m.Live, 300)
	unencoded(t, "a token of fewer blocks", m, api.ErrArg)
	unencoded(t, "twice", api.Meta{Live: []int{193, 193}}, api.ErrTwice)
}

// P9.2: how many sectors the bytes may take. No table takes as many: the largest one takes 31, so the limit is asked of bytes alone.
func TestTooManyBytes(t *testing.T) {
	s := laid(numbersOf(largest()))
	encoded(t, "the largest", largest(), s)
	if len(s) != 2+24+2+20*44+2+36+4+24 {
		t.Errorf("the largest has %d bytes", len(s))
	}
	// 48 sectors hold 6 bytes and 1530.
	for _, x := range []struct {
		n    int
		want api.Errno
	}{{0, api.OK}, {26, api.OK}, {974, api.OK}, {1498, api.OK}, {1499, api.OK}, {1530, api.OK}, {1531, api.ErrLong}, {1562, api.ErrLong}, {1563, api.ErrLong}, {1 << 13, api.ErrLong}, {1<<13 + 1, api.ErrLong}, {1 << 16, api.ErrLong}} {
		want := strings.Repeat("x", x.n)
		if x.want != api.OK {
			want = ""
		}
		if s, e := fit(strings.Repeat("x", x.n)); s != want || e != x.want {
			t.Errorf("%d bytes: %d bytes, %d, not %d", x.n, len(s), e, x.want)
		}
	}
}

// P9.4: tables come back from their bytes, which are as the chapter tells them.
func TestTablesComeBack(t *testing.T) {
	for _, m := range tables() {
		checks(t, "a table", m, len(m.Live), 1024, api.OK)
		encoded(t, "a table", m, laid(numbersOf(m)))
		s, _ := Encode(m)
		its, e := Decode(s)
		if !Same(its, m) || e != api.OK {
			t.Errorf("Decode(% x): %s, %d, not %s", s, told(its), e, told(m))
		}
	}
}

// P9.4: no beginning of a table's bytes is one's, nor are they with bytes behind them.
func TestBeginningsAndMore(t *testing.T) {
	for _, m := range tables() {
		s := laid(numbersOf(m))
		for n := range s {
			undecoded(t, "a beginning", s[:n])
		}
		for _, more := range []string{"\x00", "\x01", "\x01\x01", "\xff", s} {
			undecoded(t, "bytes behind", s+more)
			undecoded(t, "bytes ahead", more+s)
		}
		undecoded(t, "many bytes behind", s+strings.Repeat("\x00", 1<<12))
	}
	for _, s := range tables() {
		for _, other := range tables() {
			a, b := laid(numbersOf(s)), laid(numbersOf(other))
			if a != b && strings.HasPrefix(a, b) {
				t.Errorf("% x begins with % x", a, b)
			}
		}
	}
}

// takenJustSo asks that bytes are none's, or those of a table that may be, that is laid just so.
func takenJustSo(t *testing.T, s string) (api.Meta, bool) {
	t.Helper()
	m, e := Decode(s)
	if e != api.OK {
		undecoded(t, "none's", s)
		return m, false
	}
	if its := laid(numbersOf(m)); its != s || tableError(m, len(m.Live), 1024) != api.OK {
		t.Errorf("Decode(% x): %s, whose bytes are % x", s, told(m), its)
	}
	if its, e := Encode(m); its != s || e != api.OK {
		t.Errorf("Encode(%s): % x, %d, not % x", told(m), its, e, s)
	}
	return m, true
}

// P9.3: one byte that is another one makes other bytes: none's, or those of another table.
func TestOneByteSpoilt(t *testing.T) {
	for _, m := range []api.Meta{{Live: []int{0}}, {Live: []int{0, 193}}, whole(), withToken(grown(2, 1)), grown(1, 2)} {
		s := laid(numbersOf(m))
		for at := range s {
			for x := range 256 {
				if byte(x) == s[at] {
					continue
				}
				other, is := takenJustSo(t, s[:at]+string([]byte{byte(x)})+s[at+1:])
				if is && Same(other, m) {
					t.Errorf("% x, with %d at %d, is the same table", s, x, at)
				}
			}
			undecoded(t, "without a byte", s[:at]+s[at+1:])
		}
	}
	// In bytes that are many, one bit at each place.
	m := largest()
	s := laid(numbersOf(m))
	for at := range s {
		other, is := takenJustSo(t, s[:at]+string([]byte{s[at] ^ 1})+s[at+1:])
		if is && Same(other, m) {
			t.Errorf("with another bit at %d it is the same table", at)
		}
	}
}

// P9.3: a byte too many or too few somewhere.
func TestBytesAmongOthers(t *testing.T) {
	s := laid(numbersOf(whole()))
	for at := range s {
		for _, x := range []string{"\x00", "\x01", "\x02", "\xc1", "\xff"} {
			takenJustSo(t, s[:at]+x+s[at:])
		}
		takenJustSo(t, s[:at]+s[at+1:])
	}
}

// P9.3: numbers that are laid in more bytes than they take, each in its turn.
func TestNumbersInMoreBytes(t *testing.T) {
	for _, m := range tables() {
		numbers := numbersOf(m)
		for i, n := range numbers {
			ahead, behind := laid(numbers[:i]), laid(numbers[i+1:])
			digits := laid([]uint64{n})[1:]
			for more := 1; len(digits)+more <= 9; more++ {
				undecoded(t, "zeros ahead of a number", ahead+string(rune(len(digits)+more))+strings.Repeat("\x00", more)+digits+behind)
			}
		}
	}
}

// P9.3: each number in its turn is another one: counts, places, guids, flags, Next, All.
func TestOtherNumbers(t *testing.T) {
	others := []uint64{0, 1, 2, 3, 4, 5, 6, 7, 8, 9, 10, 20, 21, 22, 192, 193, 194, 255, 256, 257, 300, 1023, 1024, 1025, 1 << 16, 1<<31 - 1, 1 << 31, 1<<32 - 1, 1 << 32, 1<<32 + 1, 1<<32 + 2, 1<<32 + 193, 1<<63 - 1, 1 << 63, 1<<63 + 1, 1<<63 + 193, most - 1, most}
	for _, m := range []api.Meta{{Live: []int{193}}, whole(), grown(1, 20), withToken(grown(8, 2)), largest()} {
		numbers := numbersOf(m)
		for i, was := range numbers {
			for _, n := range others {
				numbers[i] = n
				other, is := takenJustSo(t, laid(numbers))
				if is && Same(other, m) != (n == was) {
					t.Errorf("with %d for the number %d it is %s", n, i, told(other))
				}
			}
			numbers[i] = was
		}
	}
}

// P9.3: flags that are neither 0 nor 1.
func TestFlags(t *testing.T) {
	m := whole()
	numbers := numbersOf(m)
	hidden := []int{7, 13, 19}
	token := 23
	for i, want := range map[int]uint64{7: 0, 13: 1, 19: 0, 23: 1} {
		if numbers[i] != want {
			t.Fatalf("the number %d is %d", i, numbers[i])
		}
	}
	for _, i := range append(hidden, token) {
		was := numbers[i]
		for _, n := range []uint64{2, 3, 127, 128, 255, 256, 257, 1 << 32, 1<<32 + 1, 1 << 63, 1<<63 + 1, most - 1, most} {
			numbers[i] = n
			undecoded(t, fmt.Sprintf("the flag %d is %d", i, n), laid(numbers))
		}
		numbers[i] = was
	}
	for n, i := range hidden {
		numbers[i] = 1 - numbers[i]
		want := whole()
		want.Snaps[n].Hidden = !want.Snaps[n].Hidden
		encoded(t, "the other flag", want, laid(numbers))
		numbers[i] = 1 - numbers[i]
	}
	numbers[token] = 0
	undecoded(t, "no token, and its numbers", laid(numbers))
	want := whole()
	want.Token = api.Token{}
	encoded(t, "no token", want, laid(numbers[:token+1]))
	numbers[token] = 1
	undecoded(t, "a token without its numbers", laid(numbers[:token+1]))
	// A token that says it is one, and is none.
	for blocks := 1; blocks <= 8; blocks++ {
		zeros := make([]uint64, blocks+1)
		zeros[0] = uint64(blocks)
		zeros = append(zeros, 0)
		encoded(t, "no token", api.Meta{Live: make([]int, blocks)}, laid(append(slices.Clone(zeros), 0)))
		undecoded(t, "a token of zeros", laid(append(append(zeros, 1), make([]uint64, 6+blocks)...)))
	}
}

// P9.3: counts far above what follows, of blocks and of snapshots, and numbers that are none.
func TestCounts(t *testing.T) {
	far := []uint64{2, 9, 10, 21, 255, 256, 1 << 16, 1<<31 - 1, 1 << 31, 1 << 32, 1<<32 + 1, 1<<63 - 1, 1 << 63, most}
	for _, n := range far {
		undecoded(t, "blocks", laid([]uint64{n}))
		undecoded(t, "blocks", laid([]uint64{n, 0, 0, 0}))
		undecoded(t, "snapshots", laid([]uint64{1, 0, n}))
		undecoded(t, "snapshots", laid([]uint64{1, 0, n, 0}))
		undecoded(t, "snapshots", laid([]uint64{1, 0, n, 1, 1, 0, 0, 0}))
	}
	// As many as they say, and still too many.
	for _, n := range []int{9, 10, 300} {
		undecoded(t, "blocks", laid(append([]uint64{uint64(n)}, make([]uint64, n+2)...)))
	}
	for _, n := range []int{21, 22, 300} {
		m := grown(1, n)
		for i := range m.Snaps {
			m.Snaps[i].Image = []int{0}
		}
		undecoded(t, "snapshots", laid(numbersOf(m)))
	}
	m := grown(1, 20)
	encoded(t, "twenty snapshots", m, laid(numbersOf(m)))
	undecoded(t, "no blocks", laid([]uint64{0, 0, 0}))
	for _, s := range []string{"", "\x00", "\x00\x00", "\x00\x00\x00", "\x01", "\x09", "\xff", strings.Repeat("\xff", 100), strings.Repeat("\x00", 1536), strings.Repeat("\x01", 1536), strings.Repeat("\x00", 1<<20)} {
		undecoded(t, "no table", s)
	}
}

// change is something that makes another table of the whole one.
type change struct {
	what string
	make func(m *api.Meta)
}

// changes answers for each field, and for the length of each list, what makes it another one.
func changes() []change {
	l := []change{
		{"a block more", func(m *api.Meta) { m.Live = append(m.Live, 0) }},
		{"a block less", func(m *api.Meta) { m.Live = m.Live[:2] }},
		{"no live image", func(m *api.Meta) { m.Live = nil }},
		{"a snapshot more", func(m *api.Meta) { m.Snaps = append(m.Snaps, api.Snap{}) }},
		{"the last snapshot less", func(m *api.Meta) { m.Snaps = m.Snaps[:2] }},
		{"the first snapshot less", func(m *api.Meta) { m.Snaps = m.Snaps[1:] }},
		{"no snapshots", func(m *api.Meta) { m.Snaps = nil }},
		{"two snapshots in another order", func(m *api.Meta) { m.Snaps[0], m.Snaps[1] = m.Snaps[1], m.Snaps[0] }},
		{"no token", func(m *api.Meta) { m.Token = api.Token{} }},
		{"Base's Epoch", func(m *api.Meta) { m.Token.Base.Epoch++ }},
		{"Base's Count", func(m *api.Meta) { m.Token.Base.Count++ }},
		{"Target's Epoch", func(m *api.Meta) { m.Token.Target.Epoch++ }},
		{"Target's Count", func(m *api.Meta) { m.Token.Target.Count++ }},
		{"Base and Target", func(m *api.Meta) { m.Token.Base, m.Token.Target = m.Token.Target, m.Token.Base }},
		{"Next", func(m *api.Meta) { m.Token.Next++ }},
		{"All", func(m *api.Meta) { m.Token.All-- }},
		{"a token's place more", func(m *api.Meta) { m.Token.Image = append(m.Token.Image, 0) }},
		{"a token's place less", func(m *api.Meta) { m.Token.Image = m.Token.Image[:2] }},
		{"no places of the token", func(m *api.Meta) { m.Token.Image = nil }},
	}
	for i := range 3 {
		l = append(l,
			change{"a place of the live image", func(m *api.Meta) { m.Live[i]++ }},
			change{"a place of the token", func(m *api.Meta) { m.Token.Image[i]-- }},
			change{"an Epoch", func(m *api.Meta) { m.Snaps[i].Guid.Epoch++ }},
			change{"a Count", func(m *api.Meta) { m.Snaps[i].Guid.Count-- }},
			change{"hidden", func(m *api.Meta) { m.Snaps[i].Hidden = !m.Snaps[i].Hidden }},
			change{"a snapshot's place more", func(m *api.Meta) { m.Snaps[i].Image = append(m.Snaps[i].Image, 0) }},
			change{"a snapshot's place less", func(m *api.Meta) { m.Snaps[i].Image = m.Snaps[i].Image[:2] }},
			change{"no places of a snapshot", func(m *api.Meta) { m.Snaps[i].Image = nil }})
		for block := range 3 {
			l = append(l, change{"a place of a snapshot", func(m *api.Meta) { m.Snaps[i].Image[block]++ }})
		}
	}
	return l
}

// same asks whether both are alike, both ways round, and that they are then what they were.
func same(t *testing.T, what string, a, b api.Meta, want bool) {
	t.Helper()
	one, other := told(a), told(b)
	if Same(a, b) != want || Same(b, a) != want {
		t.Errorf("%s: Same(%s, %s): %v, %v, not %v", what, one, other, Same(a, b), Same(b, a), want)
	}
	if told(a) != one || told(b) != other {
		t.Errorf("%s: Same made %s and %s of %s and %s", what, told(a), told(b), one, other)
	}
}

// P9.1: tables that differ in one field alone, each one in its turn, or in the length of a list.
func TestSameOfOthers(t *testing.T) {
	same(t, "alike", whole(), whole(), true)
	all := changes()
	for i, x := range all {
		m := whole()
		x.make(&m)
		same(t, x.what, m, whole(), false)
		again := whole()
		x.make(&again)
		same(t, x.what+" in both", m, again, true)
		for _, y := range all[:i] {
			other := whole()
			y.make(&other)
			same(t, x.what+", "+y.what, m, other, told(m) == told(other))
		}
	}
	l := tables()
	for i, a := range l {
		for k, b := range l {
			same(t, "tables", a, b, i == k || told(a) == told(b))
		}
		same(t, "in memory of its own", a, clone(a), true)
	}
}

// P9.1, R4: lists that are nil or empty are the same; and any two tables may be asked, also such that may not be.
func TestSameOfEmptyLists(t *testing.T) {
	none, empty := api.Meta{}, api.Meta{Live: []int{}, Snaps: []api.Snap{}, Token: api.Token{Image: []int{}}}
	same(t, "nothing", none, none, true)
	same(t, "nil, empty", none, empty, true)
	a := api.Meta{Snaps: []api.Snap{{Image: nil}}}
	b := api.Meta{Snaps: []api.Snap{{Image: []int{}}}}
	same(t, "a snapshot's", a, b, true)
	same(t, "a snapshot and none", a, none, false)
	same(t, "an image of a place that is zeros", api.Meta{Live: []int{0}}, none, false)
	same(t, "a token's image of a place that is zeros", api.Meta{Token: api.Token{Image: []int{0}}}, none, false)
	same(t, "a snapshot's image of a place that is zeros", api.Meta{Snaps: []api.Snap{{Image: []int{0}}}}, a, false)
	same(t, "negative", api.Meta{Live: []int{-1}}, api.Meta{Live: []int{math.MinInt}}, false)
	same(t, "beyond all", largest(), withToken(grown(8, 300)), false)
	same(t, "beyond all", grown(9, 300), grown(9, 300), true)
	// Empty lists are laid and come back as nil ones do.
	m := api.Meta{Live: []int{0, 0}, Snaps: []api.Snap{}, Token: api.Token{Image: []int{}}}
	checks(t, "empty lists", m, 2, 1024, api.OK)
	s, e := Encode(m)
	its, f := Decode(s)
	if want := "\x01\x02\x00\x00\x00\x00"; s != want || e != api.OK || f != api.OK || !Same(its, m) {
		t.Errorf("empty lists: % x, %d; %s, %d", s, e, told(its), f)
	}
}

// R5: what was handed in is not kept, what is answered is new, and no two of its lists share memory.
func TestNothingKept(t *testing.T) {
	s := laid(numbersOf(whole()))
	m, _ := Decode(s)
	again, _ := Decode(s)
	fields, others := numberFields(&m), numberFields(&again)
	if len(fields) != len(others) {
		t.Fatal("two answers are not alike")
	}
	for i, at := range fields {
		was := told(again)
		*at = -7
		if told(again) != was {
			t.Fatalf("the field %d of two answers is one", i)
		}
		for k, other := range fields[i+1:] {
			if *other == -7 {
				t.Errorf("the fields %d and %d are one", i, i+1+k)
			}
		}
	}
	// Room behind a list's end would be another list's, too.
	m, _ = Decode(s)
	was := clone(m)
	_ = append(m.Live, -7)
	for i := range m.Snaps {
		_ = append(m.Snaps[i].Image, -7)
	}
	_ = append(m.Token.Image, -7)
	if told(m) != told(was) {
		t.Errorf("what is put behind lists makes %s of %s", told(m), told(was))
	}
	// What comes of bytes hangs on nothing that was asked ahead.
	handed := whole()
	its, _ := Encode(handed)
	for _, at := range numberFields(&handed) {
		*at = -7
	}
	handed.Snaps[0].Guid = guid(9, 9)
	if its != s {
		t.Errorf("% x, not % x", its, s)
	}
	encoded(t, "once more", whole(), s)
}

// draws answers a draw from 0 on, below what it is asked for, from a short rule, so that each run does the same.
func draws(seed uint64) func(n int) int {
	return func(n int) int {
		seed = seed*6364136223846793005 + 1442695040888963407
		return int(seed >> 33 % uint64(n))
	}
}

// drawn answers a table that mostly may be, with at most a few faults.
func drawn(draw func(n int) int) api.Meta {
	blocks := 1 + draw(9)
	image := func() []int {
		l := make([]int, blocks+(draw(40)+1)/40)
		for i := range l {
			l[i] = draw(2) * (193 + 8*draw(100) + i%8)
		}
		switch draw(40) {
		case 0:
			l[draw(len(l))] = []int{-1, 192, 193, 1023, 1024, 1 << 32}[draw(6)]
		case 1:
			l[draw(len(l))], l[draw(len(l))] = 300, 300
		}
		return l
	}
	m := api.Meta{Live: image()}
	last := guid(0, 0)
	for range draw(4) * draw(8) {
		last = guid(last.Epoch+uint64(draw(2)), last.Count+uint64(min(1, draw(30))))
		m.Snaps = append(m.Snaps, api.Snap{Guid: last, Image: image(), Hidden: draw(2) == 0})
	}
	if draw(2) == 0 {
		m.Token = api.Token{Base: last, Target: guid(last.Epoch+uint64(draw(2)), last.Count+uint64(draw(9))), Next: draw(blocks + 1), All: blocks - draw(2) + (draw(20)+1)/20, Image: image()}
	}
	return m
}

// P9.1 to P9.4: many tables, held against what the chapter tells.
func TestManyTables(t *testing.T) {
	found := map[api.Errno]int{}
	for seed := range uint64(4000) {
		draw := draws(seed)
		m := drawn(draw)
		blocks, n := len(m.Live)+(draw(20)+1)/20, []int{1024, 600, 193, math.MaxInt}[min(3, draw(12))]
		checks(t, "drawn", m, blocks, n, tableError(m, blocks, n))
		want := tableError(m, len(m.Live), 1024)
		found[want]++
		if want == api.OK {
			encoded(t, "drawn", m, laid(numbersOf(m)))
			same(t, "drawn", m, clone(m), true)
		} else {
			unencoded(t, "drawn", m, want)
			// Its numbers, laid all the same, are no table's.
			takenJustSo(t, laid(numbersOf(m)))
		}
	}
	if found[api.OK] < 500 || found[api.ErrArg] < 100 || found[api.ErrLong] < 10 || found[api.ErrTwice] < 10 {
		t.Errorf("the draws say little: %v", found)
	}
}

// FuzzDecode asks that bytes are none's, or those of a table that is laid just so.
func FuzzDecode(f *testing.F) {
	for _, m := range tables() {
		f.Add(laid(numbersOf(m)))
	}
	f.Add("")
	f.Add("\x08\xff\xff\xff\xff\xff\xff\xff\xff")
	f.Fuzz(func(t *testing.T, s string) { takenJustSo(t, s) })
}

// What README.md says of the package.
func Example() {
	one, two := api.Guid{Epoch: 1, Count: 1}, api.Guid{Epoch: 1, Count: 2}
	m := api.Meta{
		Live:  []int{193, 0},
		Snaps: []api.Snap{{Guid: one, Image: []int{193, 194}}},
		Token: api.Token{Base: one, Target: two, Next: 1, All: 2, Image: []int{195, 194}},
	}
	fmt.Println(Check(m, 2, 196), Check(m, 2, 195), Check(m, 3, 196))
	s, e := Encode(m)
	fmt.Println(len(s), e)
	its, e := Decode(s)
	fmt.Println(Same(its, m), e)
	its, e = Decode(s[1:])
	fmt.Println(Same(its, api.Meta{}), e)
	m.Token.Base = two
	fmt.Println(Check(m, 2, 196))
	m.Token = api.Token{}
	fmt.Println(Check(m, 2, 195))
	// Output:
	// stemma: 0 stemma: 2 stemma: 2
	// 34 stemma: 0
	// true stemma: 0
	// true stemma: 4
	// stemma: 2
	// stemma: 0
}
