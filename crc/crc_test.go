package crc

import (
	"hash/crc32"
	"strings"
	"testing"
)

// bitwise is the sum as the chapter's words tell it, bit by bit.
func bitwise(s string) uint32 {
	sum := ^uint32(0)
	for i := range len(s) {
		sum ^= uint32(s[i])
		for range 8 {
			out := sum & 1
			sum >>= 1
			if out == 1 {
				sum ^= 0xedb88320
			}
		}
	}
	return ^sum
}

// all are the bytes from 0 to 255.
func all() string {
	b := make([]byte, 256)
	for i := range b {
		b[i] = byte(i)
	}
	return string(b)
}

// texts are some to be summed up, of many lengths.
func texts() []string {
	l := []string{"", "a", "x", "ab", "abc", "block", "123456789", "é", "\xff\xfe", all(), strings.Repeat(all(), 33)}
	for _, letter := range []string{"\x00", "\xff", "z", "\x80"} {
		for _, n := range []int{1, 3, 4, 5, 8, 31, 32, 33, 1 << 13} {
			l = append(l, strings.Repeat(letter, n))
		}
	}
	return l
}

// with answers s with another byte at i.
func with(s string, i int, x byte) string { return s[:i] + string([]byte{x}) + s[i+1:] }

// refused asks that s is not opened, and nothing is told of it.
func refused(t *testing.T, what, s string) {
	t.Helper()
	if got, is := Open(s); is || got != "" {
		t.Errorf("%s: Open(% x): %q, %v", what, s, got, is)
	}
}

// opened asks that s is opened as want.
func opened(t *testing.T, what, s, want string) {
	t.Helper()
	if got, is := Open(s); !is || got != want {
		t.Errorf("%s: Open(% x): %q, %v", what, s, got, is)
	}
}

// P2.1
func TestSumExamples(t *testing.T) {
	for _, x := range []struct {
		text string
		want uint32
	}{
		{"", 0},
		{"123456789", 0xcbf43926},
		{"\x00", 0xd202ef8d},
		{"a", 0xe8b7be43},
		{"abc", 0x352441c2},
		{"\xff", 0xff000000},
		{"\x00\x00\x00\x00", 0x2144df1c},
		{"\xff\xff\xff\xff", 0xffffffff},
		{"The quick brown fox jumps over the lazy dog", 0x414fa339},
	} {
		if n := Sum(x.text); n != x.want {
			t.Errorf("Sum(%q): %08x, not %08x", x.text, n, x.want)
		}
	}
}

// P2.1
func TestSumIsAsTheWordsTell(t *testing.T) {
	for _, s := range texts() {
		n := Sum(s)
		if want := bitwise(s); n != want {
			t.Errorf("a text of %d bytes: %08x, not %08x", len(s), n, want)
		}
		if want := crc32.ChecksumIEEE([]byte(s)); n != want {
			t.Errorf("a text of %d bytes: %08x, Ethernet has %08x", len(s), n, want)
		}
	}
}

// P2.1: all texts of one and of two bytes, so that each four bits meet each.
func TestSumOfShortTexts(t *testing.T) {
	for a := range 256 {
		s := string([]byte{byte(a)})
		if n, want := Sum(s), bitwise(s); n != want {
			t.Errorf("% x: %08x, not %08x", s, n, want)
		}
		for b := range 256 {
			s := string([]byte{byte(a), byte(b)})
			if n, want := Sum(s), bitwise(s); n != want {
				t.Fatalf("% x: %08x, not %08x", s, n, want)
			}
		}
	}
}

// P2.1, R6: a sum knows nothing of the sums ahead of it.
func TestSumAgain(t *testing.T) {
	for range 3 {
		if Sum("123456789") != 0xcbf43926 || Sum("") != 0 || Sum("\x00") != 0xd202ef8d {
			t.Error("the same bytes should have the same sum")
		}
	}
}

// P2.1
func TestSealExamples(t *testing.T) {
	for _, x := range []struct{ text, want string }{
		{"", "\x00\x00\x00\x00"},
		{"123456789", "123456789\xcb\xf4\x39\x26"},
		{"\x00", "\x00\xd2\x02\xef\x8d"},
		{"a", "a\xe8\xb7\xbe\x43"},
		{"\xff", "\xff\xff\x00\x00\x00"},
		{"\xff\xff\xff\xff", "\xff\xff\xff\xff\xff\xff\xff\xff"},
	} {
		if got := Seal(x.text); got != x.want {
			t.Errorf("Seal(%q): % x", x.text, got)
		}
	}
}

// P2.1
func TestSealIsTextAndSum(t *testing.T) {
	for _, s := range texts() {
		n := bitwise(s)
		want := s + string([]byte{byte(n >> 24), byte(n >> 16), byte(n >> 8), byte(n)})
		if got := Seal(s); got != want {
			t.Errorf("a text of %d bytes: %d bytes", len(s), len(got))
		}
		if got := Seal(want); !strings.HasPrefix(got, want) || len(got) != len(want)+4 {
			t.Errorf("a sealed text of %d bytes: %d bytes", len(want), len(got))
		}
	}
}

// P2.2
func TestOpenExamples(t *testing.T) {
	opened(t, "x", Seal("x"), "x")
	refused(t, "three bytes", "abc")
	refused(t, "three zeros", "\x00\x00\x00")
	refused(t, "another sum", "x\x00\x00\x00\x00")
}

// P2.2
func TestOpenFewBytes(t *testing.T) {
	for _, s := range []string{"", "\x00", "\x00\x00", "\x00\x00\x00", "a", "ab", "\xff\xff\xff"} {
		refused(t, "fewer than four", s)
	}
	opened(t, "four zeros", "\x00\x00\x00\x00", "")
	for i := range 4 {
		refused(t, "four bytes", with("\x00\x00\x00\x00", i, 1))
	}
	refused(t, "four ones", "\xff\xff\xff\xff")
	refused(t, "four letters", "abcd")
}

// P2.2
func TestOpenWrongSums(t *testing.T) {
	refused(t, "the lowest byte first", "123456789\x26\x39\xf4\xcb")
	refused(t, "bits that were not turned", "123456789\x34\x0b\xc6\xd9")
	refused(t, "the sum ahead", "\xcb\xf4\x39\x26123456789")
	refused(t, "another text's sum", "12345678a\xcb\xf4\x39\x26")
	refused(t, "a byte more", Seal("123456789")+"\x00")
	refused(t, "a byte ahead", "\x01"+Seal("123456789"))
	refused(t, "two bytes in another order", Seal("123456789")[:9]+"\xf4\xcb\x39\x26")
	opened(t, "the text itself", "123456789\xcb\xf4\x39\x26", "123456789")
}

// P2.2, P2.3
func TestOpenCutShort(t *testing.T) {
	for _, text := range []string{"", "a", "block", "123456789"} {
		s := Seal(text)
		for i := range len(s) {
			refused(t, "cut at its end", s[:i])
		}
		for i := 1; i < len(s); i++ {
			refused(t, "cut at its beginning", s[i:])
		}
	}
}

// P2.3
func TestSealedIsOpened(t *testing.T) {
	for _, s := range texts() {
		opened(t, "sealed", Seal(s), s)
		opened(t, "sealed twice", Seal(Seal(s)), Seal(s))
	}
}

// P2.3: every other byte, at each place, also among the last four.
func TestAnotherByteIsNotOpened(t *testing.T) {
	for _, text := range []string{"", "x", "ab", "\x00\x00\x00", "\xff", "block", "123456789", strings.Repeat("\x00", 32)} {
		s := Seal(text)
		for i := range len(s) {
			for x := range 256 {
				if byte(x) != s[i] {
					refused(t, "another byte", with(s, i, byte(x)))
				}
			}
		}
	}
}

// P2.3: a long text, with another bit at each place.
func TestAnotherBitOfALongText(t *testing.T) {
	s := Seal(strings.Repeat(all(), 4))
	for i := range len(s) {
		refused(t, "another bit", with(s, i, s[i]^1<<(i%8)))
	}
}

// P2.1 to P2.3
func FuzzCrc(f *testing.F) {
	f.Add("", 0, byte(1))
	f.Add("123456789", 3, byte(0x80))
	f.Add("\x00\x00\x00\x00", 7, byte(0xff))
	f.Fuzz(func(t *testing.T, s string, at int, x byte) {
		if Sum(s) != bitwise(s) {
			t.Errorf("Sum(%q): %08x", s, Sum(s))
		}
		sealed := Seal(s)
		opened(t, "sealed", sealed, s)
		if at >= 0 && at < len(sealed) && x != 0 {
			refused(t, "another byte", with(sealed, at, sealed[at]^x))
		}
		if got, is := Open(s); is && Seal(got) != s {
			t.Errorf("% x is opened as % x", s, got)
		}
	})
}
