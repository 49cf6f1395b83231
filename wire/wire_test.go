package wire

import (
	"encoding/hex"
	"math"
	"strings"
	"testing"
)

// bytesOf reads digits, with blanks between them.
func bytesOf(t *testing.T, digits string) string {
	t.Helper()
	b, err := hex.DecodeString(strings.ReplaceAll(digits, " ", ""))
	if err != nil {
		t.Fatal(err)
	}
	return string(b)
}

var numbers = []struct {
	n      uint64
	digits string
}{
	{0, "00"},
	{1, "01 01"},
	{5, "01 05"},
	{127, "01 7f"},
	{128, "01 80"},
	{255, "01 ff"},
	{256, "02 01 00"},
	{300, "02 01 2c"},
	{1<<16 - 1, "02 ff ff"},
	{1 << 16, "03 01 00 00"},
	{1<<24 - 1, "03 ff ff ff"},
	{1 << 24, "04 01 00 00 00"},
	{1<<32 - 1, "04 ff ff ff ff"},
	{1 << 32, "05 01 00 00 00 00"},
	{1 << 40, "06 01 00 00 00 00 00"},
	{1 << 48, "07 01 00 00 00 00 00 00"},
	{1<<56 - 1, "07 ff ff ff ff ff ff ff"},
	{1 << 56, "08 01 00 00 00 00 00 00 00"},
	{0x0102030405060708, "08 01 02 03 04 05 06 07 08"},
	{math.MaxInt64, "08 7f ff ff ff ff ff ff ff"},
	{1 << 63, "08 80 00 00 00 00 00 00 00"},
	{math.MaxUint64, "08 ff ff ff ff ff ff ff ff"},
}

var texts = []string{"", "a", "ab", "\x00", "\x00\x00", "\xff\xfe", "é", strings.Repeat("x", 255), strings.Repeat("y", 256), strings.Repeat("\x00", 1<<16)}

// P1.1
func TestPutNum(t *testing.T) {
	for _, x := range numbers {
		want := bytesOf(t, x.digits)
		for _, s := range []string{"", "s", "\x00", want} {
			if got := PutNum(s, x.n); got != s+want {
				t.Errorf("PutNum(%q, %d): % x", s, x.n, got)
			}
		}
	}
}

// P1.1
func TestPutText(t *testing.T) {
	for _, x := range []struct{ text, digits string }{
		{"", "00"},
		{"a", "01 01 61"},
		{"ab", "01 02 61 62"},
		{"\x00", "01 01 00"},
		{"é", "01 02 c3 a9"},
	} {
		want := bytesOf(t, x.digits)
		for _, s := range []string{"", "s", "\x00", want} {
			if got := PutText(s, x.text); got != s+want {
				t.Errorf("PutText(%q, %q): % x", s, x.text, got)
			}
		}
	}
	for _, x := range texts {
		if got, want := PutText("s", x), PutNum("s", uint64(len(x)))+x; got != want {
			t.Errorf("a text of %d bytes: %d bytes", len(x), len(got))
		}
	}
}

// P1.2
func TestNum(t *testing.T) {
	for _, x := range numbers {
		s := bytesOf(t, x.digits)
		r := NewReader(s)
		if r.End() || !r.OK() {
			t.Errorf("% x: at its beginning", s)
		}
		if n := r.Num(); n != x.n || !r.OK() || !r.End() {
			t.Errorf("% x: %d", s, n)
		}
		r = NewReader(s + "\x01\x07")
		if n := r.Num(); n != x.n || !r.OK() || r.End() {
			t.Errorf("% x, and more: %d", s, n)
		}
		if n := r.Num(); n != 7 || !r.End() {
			t.Errorf("% x: what comes behind it: %d", s, n)
		}
	}
}

// P1.2
func TestText(t *testing.T) {
	for _, x := range texts {
		r := NewReader(PutText("", x))
		if got := r.Text(); got != x || !r.OK() || !r.End() {
			t.Errorf("a text of %d bytes: %d bytes", len(x), len(got))
		}
		r = NewReader(PutText("", x) + "\x01\x01z")
		if got := r.Text(); got != x || !r.OK() || r.End() {
			t.Errorf("a text of %d bytes, and more: %d bytes", len(x), len(got))
		}
		if got := r.Text(); got != "z" || !r.End() {
			t.Errorf("behind a text of %d bytes: %q", len(x), got)
		}
	}
}

// P1.2
func TestExampleOneBehindTheOther(t *testing.T) {
	r := NewReader(bytesOf(t, "01 05 00 01 01 61"))
	if n := r.Num(); n != 5 {
		t.Errorf("Num: %d", n)
	}
	if s := r.Text(); s != "" || !r.OK() || r.End() {
		t.Errorf("Text: %q", s)
	}
	if s := r.Text(); s != "a" {
		t.Errorf("Text: %q", s)
	}
	if !r.End() {
		t.Error("it should be at the end")
	}
}

// failed asks that a reader has failed, and stays so, whatever is asked.
func failed(t *testing.T, what string, r *Reader) {
	t.Helper()
	for range 2 {
		if r.OK() || r.End() || r.Num() != 0 || r.Text() != "" {
			t.Errorf("%s: it should have failed for good", what)
		}
	}
}

// P1.2
func TestNumFails(t *testing.T) {
	for _, digits := range []string{
		"",
		"01",
		"01 00",
		"02 01",
		"02 00 05",
		"02 00 00",
		"08 ff ff ff ff ff ff ff",
		"08 00 ff ff ff ff ff ff ff",
		"09",
		"09 01 02 03 04 05 06 07 08 09",
		"80",
		"ff",
		"01 00 01 05",
		"09 01 05 01 05",
	} {
		r := NewReader(bytesOf(t, digits))
		if n := r.Num(); n != 0 {
			t.Errorf("%q: %d", digits, n)
		}
		failed(t, "Num of "+digits, r)
		r = NewReader(bytesOf(t, digits))
		if s := r.Text(); s != "" {
			t.Errorf("%q: %q", digits, s)
		}
		failed(t, "Text of "+digits, r)
	}
}

// P1.2
func TestTextFails(t *testing.T) {
	for _, digits := range []string{
		"01 03 61 62",
		"01 01",
		"02 00 01 61",
		"02 01 00 61",
		"08 7f ff ff ff ff ff ff ff 61",
		"08 80 00 00 00 00 00 00 00 61",
		"08 ff ff ff ff ff ff ff ff 61",
	} {
		r := NewReader(bytesOf(t, digits))
		if s := r.Text(); s != "" {
			t.Errorf("%q: %q", digits, s)
		}
		failed(t, "Text of "+digits, r)
	}
}

// P1.2
func TestFailsBehindOthers(t *testing.T) {
	r := NewReader(PutText(PutNum("", 7), "seven"))
	if r.Num() != 7 || r.Text() != "seven" || !r.End() {
		t.Error("what was put should be read")
	}
	if r.Num() != 0 {
		t.Error("nothing is left")
	}
	failed(t, "Num at the end", r)
	r = NewReader(PutNum("", 7))
	if r.Num() != 7 || r.Text() != "" {
		t.Error("nothing is left")
	}
	failed(t, "Text at the end", r)
}

// P1.2, R1, R3
func TestReaderThatIsNone(t *testing.T) {
	failed(t, "a reader that is none", nil)
}

// P1.2
func TestReadersApart(t *testing.T) {
	s := PutNum(PutNum("", 1), 2)
	a, b := NewReader(s), NewReader(s)
	if a.Num() != 1 || a.Num() != 2 || a.Num() != 0 || a.OK() {
		t.Error("the first reader")
	}
	if b.Num() != 1 || b.Num() != 2 || !b.End() {
		t.Error("the second reader should know nothing of the first one")
	}
}

// P1.3
func TestRoundTrip(t *testing.T) {
	s := ""
	for _, x := range numbers {
		s = PutNum(s, x.n)
		for _, y := range texts[:len(texts)-1] {
			s = PutText(s, y)
		}
	}
	r := NewReader(s)
	for _, x := range numbers {
		if n := r.Num(); n != x.n {
			t.Fatalf("%d: %d", x.n, n)
		}
		for _, y := range texts[:len(texts)-1] {
			if got := r.Text(); got != y {
				t.Fatalf("%q: %q", y, got)
			}
		}
	}
	if !r.End() {
		t.Error("it should be at the end")
	}
}

// short goes through all bytes of at most n, over the letters.
func short(letters string, n int, each func(string)) {
	each("")
	if n == 0 {
		return
	}
	for i := range len(letters) {
		short(letters, n-1, func(s string) { each(letters[i:i+1] + s) })
	}
}

// P1.3: what is read as one whole is what would be put.
func TestOnlyWhatIsPutIsRead(t *testing.T) {
	short("\x00\x01\x02\x03\x09\xff", 4, func(s string) {
		r := NewReader(s)
		if n := r.Num(); r.End() && PutNum("", n) != s {
			t.Errorf("% x is read as %d", s, n)
		}
		r = NewReader(s)
		if x := r.Text(); r.End() && PutText("", x) != s {
			t.Errorf("% x is read as %q", s, x)
		}
	})
}

// P1.3: what is cut short is no number and no text.
func TestNoneBeginsWithAnother(t *testing.T) {
	for _, x := range numbers {
		s := PutNum("", x.n)
		for i := range len(s) {
			r := NewReader(s[:i])
			if n := r.Num(); n != 0 {
				t.Errorf("% x: %d", s[:i], n)
			}
			failed(t, "a number cut short", r)
		}
	}
	for _, x := range texts[:len(texts)-1] {
		s := PutText("", x)
		for i := range len(s) {
			r := NewReader(s[:i])
			if got := r.Text(); got != "" {
				t.Errorf("% x: %q", s[:i], got)
			}
			failed(t, "a text cut short", r)
		}
	}
	for _, x := range numbers {
		for _, y := range numbers {
			if x.n != y.n && strings.HasPrefix(PutNum("", x.n), PutNum("", y.n)) {
				t.Errorf("%d begins with %d", x.n, y.n)
			}
		}
	}
}

// P1.3
func FuzzRead(f *testing.F) {
	f.Add("\x01\x05\x00\x01\x01a")
	f.Add("\x08\xff\xff\xff\xff\xff\xff\xff\xff")
	f.Add("\x02\x00\x05")
	f.Fuzz(func(t *testing.T, s string) {
		r := NewReader(s)
		again := ""
		for i := 0; r.OK() && !r.End(); i++ {
			if i%2 == 0 {
				if n := r.Num(); r.OK() {
					again = PutNum(again, n)
				}
			} else if x := r.Text(); r.OK() {
				again = PutText(again, x)
			}
		}
		if !strings.HasPrefix(s, again) || r.End() && s != again {
			t.Errorf("% x is put as % x", s, again)
		}
	})
}
