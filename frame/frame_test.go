package frame

import (
	"hash/crc32"
	"slices"
	"strings"
	"testing"

	"stemma/api"
)

// zeros answers n bytes 0.
func zeros(n int) string { return strings.Repeat("\x00", n) }

// head is what stands ahead of text in its frame, if it says to have n bytes, whether it has or not.
func head(text string, n int) string {
	sum := crc32.ChecksumIEEE([]byte(text))
	return string([]byte{byte(n >> 8), byte(n), byte(sum >> 24), byte(sum >> 16), byte(sum >> 8), byte(sum)})
}

// sectorsOf answers bytes in sectors, filled up with zeros.
func sectorsOf(s string) []string {
	for len(s)%32 != 0 {
		s += "\x00"
	}
	var l []string
	for i := 0; i < len(s); i += 32 {
		l = append(l, s[i:i+32])
	}
	return l
}

// framed is a text's sectors, as the chapter's words tell them.
func framed(text string) []string { return sectorsOf(head(text, len(text)) + text) }

// mixed answers n bytes that are not all alike.
func mixed(n int) string {
	b := make([]byte, n)
	for i := range b {
		b[i] = byte(i*7 + i>>8)
	}
	return string(b)
}

// texts are some that may be framed, of many lengths.
func texts() []string {
	l := []string{"", "a", "b", "ab", "block", "123456789", "é", "\xff\xfe"}
	for _, n := range []int{1, 2, 5, 6, 25, 26, 27, 31, 32, 33, 57, 58, 59, 89, 90, 91, 249, 250, 251, 255, 256, 257, 511, 512, 1000, 1<<13 - 1, 1 << 13} {
		l = append(l, zeros(n), strings.Repeat("\xff", n), mixed(n))
	}
	return l
}

// with answers l with another byte x at the place at of its sector i.
func with(l []string, i, at int, x byte) []string {
	m := slices.Clone(l)
	m[i] = m[i][:at] + string([]byte{x}) + m[i][at+1:]
	return m
}

// refused asks that l is unpacked as ErrForm, without a text.
func refused(t *testing.T, what string, l []string) {
	t.Helper()
	if text, e := Unpack(l); text != "" || e != api.ErrForm {
		t.Errorf("%s: %d sectors: %q, %d", what, len(l), text, e)
	}
}

// unpacked asks that l is unpacked as text.
func unpacked(t *testing.T, what string, l []string, text string) {
	t.Helper()
	if got, e := Unpack(l); got != text || e != api.OK {
		t.Errorf("%s: %d sectors: %d bytes, %d", what, len(l), len(got), e)
	}
}

// packed answers text's sectors, and asks that there are some.
func packed(t *testing.T, text string) []string {
	t.Helper()
	l, e := Pack(text)
	if e != api.OK || len(l) == 0 {
		t.Fatalf("a text of %d bytes: %d sectors, %d", len(text), len(l), e)
	}
	return l
}

// P3.1
func TestSizeExamples(t *testing.T) {
	for _, x := range []struct{ n, want int }{{0, 1}, {1, 1}, {25, 1}, {26, 1}, {27, 2}, {58, 2}, {59, 3}, {90, 3}, {91, 4}, {1<<13 - 1, 257}, {1 << 13, 257}} {
		for _, letter := range []string{"x", "\x00"} {
			if got := Size(strings.Repeat(letter, x.n)); got != x.want {
				t.Errorf("%d bytes: %d, not %d", x.n, got, x.want)
			}
		}
	}
}

// P3.1: also of texts that are too long to be packed.
func TestSizeIsTheLeast(t *testing.T) {
	all := zeros(1<<20 + 1)
	for n := range 1 << 14 {
		if got := Size(all[:n]); 32*got < n+6 || 32*(got-1) >= n+6 {
			t.Fatalf("%d bytes: %d", n, got)
		}
	}
	for _, n := range []int{1<<13 + 1, 1<<16 - 7, 1<<16 - 6, 1<<16 - 5, 1<<16 - 1, 1 << 16, 1<<16 + 1, 1<<20 - 6, 1<<20 - 5, 1 << 20, 1<<20 + 1} {
		if got := Size(all[:n]); 32*got < n+6 || 32*(got-1) >= n+6 {
			t.Errorf("%d bytes: %d", n, got)
		}
	}
}

// P3.1
func TestPackExamples(t *testing.T) {
	for _, x := range []struct {
		text string
		want []string
	}{
		{"", []string{zeros(32)}},
		{"123456789", []string{"\x00\x09\xcb\xf4\x39\x26123456789" + zeros(17)}},
		{"a", []string{"\x00\x01\xe8\xb7\xbe\x43a" + zeros(25)}},
		{"\x00", []string{"\x00\x01\xd2\x02\xef\x8d" + zeros(26)}},
		{strings.Repeat("\xff", 4), []string{"\x00\x04\xff\xff\xff\xff\xff\xff\xff\xff" + zeros(22)}},
	} {
		l, e := Pack(x.text)
		if e != api.OK || !slices.Equal(l, x.want) {
			t.Errorf("Pack(%q): %q, %d", x.text, l, e)
		}
		unpacked(t, "an example", x.want, x.text)
	}
}

// P3.1
func TestPackIsAsTheWordsTell(t *testing.T) {
	for _, text := range texts() {
		l := packed(t, text)
		if !slices.Equal(l, framed(text)) {
			t.Errorf("a text of %d bytes: other sectors", len(text))
		}
		if len(l) != Size(text) {
			t.Errorf("a text of %d bytes: %d sectors, Size tells %d", len(text), len(l), Size(text))
		}
		for i, s := range l {
			if len(s) != api.Sector {
				t.Errorf("a text of %d bytes: the sector %d has %d bytes", len(text), i, len(s))
			}
		}
	}
}

// P3.1: the higher byte of how many there are.
func TestPackLengths(t *testing.T) {
	for _, x := range []struct {
		n    int
		want string
	}{{0, "\x00\x00"}, {1, "\x00\x01"}, {255, "\x00\xff"}, {256, "\x01\x00"}, {258, "\x01\x02"}, {1<<13 - 1, "\x1f\xff"}, {1 << 13, "\x20\x00"}} {
		if l := packed(t, mixed(x.n)); l[0][:2] != x.want {
			t.Errorf("%d bytes: % x", x.n, l[0][:2])
		}
	}
}

// P3.1, R2
func TestPackTooLong(t *testing.T) {
	for _, n := range []int{1<<13 + 1, 1<<13 + 31, 1 << 14, 1<<16 - 1, 1 << 16, 1<<16 + 1, 1<<16 + 9, 1 << 20} {
		if l, e := Pack(mixed(n)); l != nil || e != api.ErrLong {
			t.Errorf("%d bytes: %d sectors, %d", n, len(l), e)
		}
	}
	if l := packed(t, mixed(1<<13)); len(l) != 257 {
		t.Errorf("2^13 bytes: %d sectors", len(l))
	}
}

// P3.1, P3.2, R5, R6: what was answered once is not what is answered again.
func TestAnswersAreNew(t *testing.T) {
	for _, text := range []string{"", "123456789", mixed(100)} {
		l := packed(t, text)
		for i := range l {
			l[i] = "spoilt"
		}
		again := packed(t, text)
		if !slices.Equal(again, framed(text)) {
			t.Errorf("a text of %d bytes: other sectors the second time", len(text))
		}
		kept := slices.Clone(again)
		for range 3 {
			unpacked(t, "the same again", again, text)
		}
		if !slices.Equal(again, kept) {
			t.Errorf("a text of %d bytes: what was handed in has changed", len(text))
		}
	}
}

// P3.2
func TestUnpackExamples(t *testing.T) {
	l := packed(t, "123456789")
	unpacked(t, "an example", l, "123456789")
	refused(t, "twice", append(slices.Clone(l), l...))
	for at := range l[0] {
		refused(t, "another byte", with(l, 0, at, l[0][at]^1))
	}
	refused(t, "no sectors", nil)
	refused(t, "no sectors", []string{})
	refused(t, "a sector of 31 bytes", []string{l[0][:31]})
	refused(t, "31 zeros", []string{zeros(31)})
}

// P3.2: every other byte, at each place, of the head, the text and the zeros.
func TestAnotherByteAtEachPlace(t *testing.T) {
	for _, text := range []string{"", "123456789", "\x00\x00\x00", mixed(26), mixed(27), mixed(70), zeros(40)} {
		l := packed(t, text)
		for i := range l {
			for at := range l[i] {
				for x := range 256 {
					if byte(x) != l[i][at] {
						refused(t, "another byte", with(l, i, at, byte(x)))
					}
				}
			}
		}
	}
}

// P3.2
func TestAnotherBitOfTheLongest(t *testing.T) {
	l := packed(t, mixed(1<<13))
	for i := range l {
		at := i * 5 % 32
		refused(t, "another bit", with(l, i, at, l[i][at]^1<<(i%8)))
	}
	for at := range l[256] {
		refused(t, "another bit of the last sector", with(l, 256, at, l[256][at]^0x80))
	}
}

// P3.2
func TestWrongSizes(t *testing.T) {
	two, one := packed(t, mixed(40)), packed(t, "123456789")
	for _, l := range [][]string{
		{""},
		{"", ""},
		{"\x00\x00"},
		{"\x00\x00\x00\x00\x00"},
		{"\x00\x00\x00\x00\x00\x00"},
		{zeros(33)},
		{zeros(64)},
		{"", zeros(32)},
		{zeros(32), ""},
		{zeros(16), zeros(16)},
		{one[0][:15]},
		{one[0] + "\x00"},
		{one[0], ""},
		{"", one[0]},
		{two[0] + two[1]},
		{two[0] + two[1][:1], two[1][1:]},
		{two[0][:31], two[0][31:] + two[1]},
		{two[0][:16], two[0][16:], two[1][:16], two[1][16:]},
		{two[0], two[1][:31]},
		{two[0], two[1] + "\x00"},
		{two[0], "", two[1]},
	} {
		refused(t, "sectors of other sizes", l)
	}
}

// P3.2: sectors that are missing, too many, or in another order.
func TestOtherSectors(t *testing.T) {
	for _, text := range []string{"", "123456789", mixed(27), mixed(100), mixed(1000), mixed(1 << 13)} {
		l := packed(t, text)
		for i := range l {
			refused(t, "one is missing", slices.Delete(slices.Clone(l), i, i+1))
			refused(t, "one is there twice", slices.Insert(slices.Clone(l), i, l[i]))
			refused(t, "zeros among them", slices.Insert(slices.Clone(l), i+1, zeros(32)))
		}
		for i := 1; i < len(l); i++ {
			m := slices.Clone(l)
			m[i-1], m[i] = m[i], m[i-1]
			refused(t, "two in another order", m)
		}
		refused(t, "another text behind it", append(slices.Clone(l), packed(t, "b")...))
		refused(t, "another text ahead of it", append(packed(t, "b"), l...))
	}
}

// P3.2: the sum is right, and what is said of the length is not.
func TestOtherLengths(t *testing.T) {
	for _, text := range []string{"", "123456789", mixed(26), mixed(27), mixed(300)} {
		for n := range 1 << 16 {
			if n != len(text) {
				refused(t, "another length", sectorsOf(head(text, n)+text))
			}
		}
	}
}

// P3.2: the sum is that of as many bytes as are said, and behind them are others than zeros, or another sector.
func TestBeginningsOfWhatIsThere(t *testing.T) {
	text := mixed(60)
	for n := range len(text) {
		// A zero that would follow anyway says nothing of the length.
		if strings.Trim(text[n:], "\x00") != "" {
			refused(t, "a beginning", sectorsOf(head(text[:n], n)+text))
		}
		refused(t, "a byte in the zeros", sectorsOf(head(text[:n], n)+text[:n]+"\x00\x01"))
		refused(t, "a sector behind it", append(framed(text[:n]), zeros(32)))
	}
}

// P3.2: a text's last zeros are its own, if it says so; else they are the frame's.
func TestZerosAtTheEnd(t *testing.T) {
	for n := range 26 {
		for more := range 26 - n {
			unpacked(t, "zeros", sectorsOf(head(mixed(n), n)+mixed(n)+zeros(more)), mixed(n))
		}
	}
	unpacked(t, "26 zeros", framed(zeros(26)), zeros(26))
	unpacked(t, "27 zeros", framed(zeros(27)), zeros(27))
}

// P3.2: frames that would be whole, of texts that are too long.
func TestUnpackTooLong(t *testing.T) {
	for _, n := range []int{1<<13 + 1, 1<<13 + 25, 1<<13 + 26, 1 << 14, 1<<16 - 1} {
		refused(t, "a text that is too long", framed(mixed(n)))
		refused(t, "zeros that are too many", framed(zeros(n)))
	}
	unpacked(t, "the longest", framed(mixed(1<<13)), mixed(1<<13))
	// Lengths that two bytes don't tell.
	for _, n := range []int{1 << 16, 1<<16 + 1, 1<<16 + 9} {
		refused(t, "a length without its highest byte", framed(mixed(n)))
	}
}

// P3.2
func TestOtherSums(t *testing.T) {
	text := "123456789"
	for _, sum := range []string{"\x26\x39\xf4\xcb", "\x34\x0b\xc6\xd9", "\x00\x00\x00\x00", "\xff\xff\xff\xff", "\xf4\xcb\x39\x26"} {
		refused(t, "another sum", sectorsOf("\x00\x09"+sum+text))
	}
	refused(t, "the lower byte first", sectorsOf("\x09\x00\xcb\xf4\x39\x26"+text))
	refused(t, "the sum ahead", sectorsOf("\xcb\xf4\x39\x26\x00\x09"+text))
	refused(t, "the sum behind", sectorsOf("\x00\x09"+text+"\xcb\xf4\x39\x26"))
	refused(t, "another text's sum", sectorsOf("\x00\x09\xcb\xf4\x39\x2612345678a"))
	refused(t, "a frame of ones", []string{strings.Repeat("\xff", 32)})
	unpacked(t, "the text itself", sectorsOf("\x00\x09\xcb\xf4\x39\x26"+text), text)
}

// P3.3
func TestTextsComeBack(t *testing.T) {
	for _, text := range texts() {
		unpacked(t, "packed", packed(t, text), text)
	}
	for n := range 600 {
		unpacked(t, "packed", packed(t, mixed(n)), mixed(n))
	}
}

// P3.3: no text's sectors are another one's, nor begin with another one's.
func TestTextsHaveTheirOwnSectors(t *testing.T) {
	all := map[string]string{}
	for _, text := range texts() {
		all[text] = strings.Join(packed(t, text), "")
	}
	for a, its := range all {
		for b, other := range all {
			if a != b && strings.HasPrefix(its, other) {
				t.Errorf("the sectors of %d bytes begin with those of %d other ones", len(a), len(b))
			}
		}
	}
}

// P3.3
func TestBeginningsAreNone(t *testing.T) {
	for _, text := range texts() {
		l := packed(t, text)
		for i := range l {
			refused(t, "a beginning", l[:i])
		}
	}
}

// P3.1 to P3.3
func FuzzFrame(f *testing.F) {
	f.Add("", 0, byte(1))
	f.Add("123456789", 3, byte(0x80))
	f.Add(zeros(32), 31, byte(0xff))
	f.Add(mixed(100), 70, byte(4))
	f.Add(mixed(1<<13+1), 0, byte(4))
	f.Fuzz(func(t *testing.T, s string, at int, x byte) {
		l := sectorsOf(s)
		if text, e := Unpack(l); e == api.OK && !slices.Equal(framed(text), l) {
			t.Errorf("% x is unpacked as % x", s, text)
		}
		l, e := Pack(s)
		if len(s) > api.MaxText {
			if l != nil || e != api.ErrLong {
				t.Errorf("%d bytes: %d", len(s), e)
			}
			return
		}
		if e != api.OK || !slices.Equal(l, framed(s)) || len(l) != Size(s) {
			t.Errorf("Pack(%q): %q, %d", s, l, e)
		}
		unpacked(t, "packed", l, s)
		if at >= 0 && at < 32*len(l) && x != 0 {
			refused(t, "another byte", with(l, at/32, at%32, l[at/32][at%32]^x))
		}
	})
}
