// Package wire is layer 1: numbers and texts as bytes, one behind the other; see shared/doc/01-wire.md.
package wire

import (
	"math/bits"
	"strings"
)

// maxSize is how many bytes a number has at most, besides the one that says how many.
const maxSize = 8

// PutNum answers s, and behind it the bytes of n.
func PutNum(s string, n uint64) string { return put(s, size(n), digits(n)) }

// PutText answers s, and behind it the bytes of t.
func PutText(s, t string) string {
	n := uint64(len(t))
	return put(s, size(n), digits(n), t)
}

// put answers s, and behind it the parts, in order.
func put(s string, parts ...string) string {
	var b strings.Builder
	b.WriteString(s)
	for _, p := range parts {
		b.WriteString(p)
	}
	return b.String()
}

// count tells how many digits n has in base 256; 0 has none.
func count(n uint64) int { return (bits.Len64(n) + 7) / 8 }

// size answers the byte that says how many digits of n follow.
func size(n uint64) string { return string([]byte{byte(count(n))}) }

// digits answers n in base 256, the highest digit first.
func digits(n uint64) string {
	d := make([]byte, count(n))
	for i := len(d) - 1; i >= 0; i-- {
		d[i] = byte(n)
		n >>= 8
	}
	return string(d)
}

// Reader takes numbers and texts from the beginning of what is left.
type Reader struct {
	left   []byte
	failed bool
}

// NewReader answers a reader at the beginning of s.
func NewReader(s string) *Reader { return &Reader{left: []byte(s)} }

// Num answers the number that comes next; if none does, 0, and the reader has failed.
func (r *Reader) Num() uint64 { return read(r, num) }

// Text answers the text that comes next; if none does, no bytes, and the reader has failed.
func (r *Reader) Text() string { return read(r, text) }

// OK tells whether the reader is one, and has not failed.
func (r *Reader) OK() bool { return r != nil && !r.failed }

// End tells whether the reader has not failed, and nothing is left.
func (r *Reader) End() bool { return r.OK() && len(r.left) == 0 }

// taker cuts so many bytes off the beginning of something, if it has as many.
type taker func(n uint64) ([]byte, bool)

// take is the taker of what is left.
func (r *Reader) take(n uint64) ([]byte, bool) {
	if n > uint64(len(r.left)) {
		return nil, false
	}
	end := len(r.left)
	head := r.left[:n:n]
	r.left = r.left[n:end:end]
	return head, true
}

// read answers what parse makes of what is left; the zero value, where that fails or the reader had failed.
func read[T any](r *Reader, parse func(taker) (T, bool)) T {
	var none T
	if !r.OK() {
		return none
	}
	x, ok := parse(r.take)
	r.failed = !ok
	return x
}

// num takes a number's bytes.
func num(take taker) (uint64, bool) {
	first, ok := take(1)
	if !ok || first[0] > maxSize {
		return 0, false
	}
	d, ok := take(uint64(first[0]))
	// A 0 ahead would give one number several forms.
	if !ok || len(d) > 0 && d[0] == 0 {
		return 0, false
	}
	var n uint64
	for _, b := range d {
		n = n<<8 | uint64(b)
	}
	return n, true
}

// text takes a text's bytes.
func text(take taker) (string, bool) {
	n, ok := num(take)
	if !ok {
		return "", false
	}
	t, ok := take(n)
	if !ok {
		return "", false
	}
	return string(t), true
}
