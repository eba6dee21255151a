package bits_test

import (
	"bytes"
	"math"
	"strings"
	"testing"

	"spacecraft/bits"
)

// field is a number and the width with which it is put.
type field struct {
	n     uint64
	width int
}

// numbers contains numbers whose bits show a wrong order, a lost bit and a bit too many.
var numbers = []uint64{0, 1, 0x5A, 0x8000000000000001, 0x0123456789ABCDEF, 0xFEDCBA9876543210, math.MaxUint64}

// invalidWidths are invalid for Put and Get.
var invalidWidths = []int{-1, 65, -2, 66, 72, 128, -8, -64, 1 << 32, math.MinInt, math.MaxInt}

// pseudo returns numbers that follow no simple rule but are the same in every run.
func pseudo() func() uint64 {
	x := uint64(0x9E3779B97F4A7C15)
	return func() uint64 {
		x ^= x << 13
		x ^= x >> 7
		x ^= x << 17
		return x
	}
}

// fieldsOf returns count fields with widths from 0 to 64.
func fieldsOf(next func() uint64, count int) []field {
	fields := make([]field, count)
	for i := range fields {
		fields[i] = field{next(), int(next() >> 32 % 65)}
	}
	return fields
}

// text returns the width least significant bits of n as digits, the most significant one first.
func text(n uint64, width int) string {
	var s strings.Builder
	for i := width - 1; i >= 0; i-- {
		s.WriteByte('0' + byte(n>>i&1))
	}
	return s.String()
}

// pack returns the bytes that the digits of s form, the last one filled with zero bits.
func pack(s string) []byte {
	b := make([]byte, (len(s)+7)/8)
	for i := range s {
		if s[i] == '1' {
			b[i/8] |= 0x80 >> (i % 8)
		}
	}
	return b
}

// number returns the number whose digits are s.
func number(s string) uint64 {
	var n uint64
	for i := range s {
		n = 2*n + uint64(s[i]-'0')
	}
	return n
}

// expectWritten checks that the bits of w are the digits want.
func expectWritten(t *testing.T, w *bits.Writer, want string) {
	t.Helper()
	if w.Len() != len(want) {
		t.Fatalf("Len = %d, want %d", w.Len(), len(want))
	}
	if got := w.Bytes(); !bytes.Equal(got, pack(want)) {
		t.Fatalf("Bytes of %s = %X, want %X", want, got, pack(want))
	}
}

// expectLeft checks that r has not failed and that left bits remain.
func expectLeft(t *testing.T, r *bits.Reader, left int) {
	t.Helper()
	if r.Left() != left || r.Failed() {
		t.Fatalf("Left = %d, Failed = %t, want %d and false", r.Left(), r.Failed(), left)
	}
}

// expectFailed checks that r has failed and remains so, whatever is called.
func expectFailed(t *testing.T, r *bits.Reader) {
	t.Helper()
	for _, width := range []int{0, 1, 8, 64, 65, -1, math.MaxInt, math.MinInt} {
		if r.Left() != 0 || !r.Failed() {
			t.Fatalf("Left = %d, Failed = %t, want 0 and true", r.Left(), r.Failed())
		}
		if n := r.Get(width); n != 0 {
			t.Fatalf("after the failure, Get(%d) = %X", width, n)
		}
		r.Skip(width)
	}
	if r.Left() != 0 || !r.Failed() {
		t.Fatalf("in the end, Left = %d, Failed = %t", r.Left(), r.Failed())
	}
}

// P2.1: the first example of the chapter, after each of its steps.
func TestWriterExample(t *testing.T) {
	w := bits.NewWriter()
	expectWritten(t, w, "")
	expectWritten(t, w.Put(5, 3), "101")
	expectWritten(t, w.Put(1, 2), "10101")
	expectWritten(t, w.Put(255, 4), "101011111")
	if got := w.Bytes(); !bytes.Equal(got, []byte{0xAF, 0x80}) {
		t.Errorf("Bytes = %X, want AF80", got)
	}
}

// P2.1: a new writer has no bits and no bytes.
func TestNewWriterEmpty(t *testing.T) {
	w := bits.NewWriter()
	if w == nil {
		t.Fatal("NewWriter returned nil")
	}
	if w.Len() != 0 || len(w.Bytes()) != 0 {
		t.Errorf("Len = %d, Bytes = %X", w.Len(), w.Bytes())
	}
}

// P2.1: every valid width at every position in a byte; the bits of the number above the width do not count.
func TestPutWidths(t *testing.T) {
	for lead := range 17 {
		for width := range 65 {
			for _, n := range numbers {
				w := bits.NewWriter().Put(math.MaxUint64, lead)
				w.Put(n, width)
				expectWritten(t, w, text(math.MaxUint64, lead)+text(n, width))
				w.Put(0, 3).Put(1, 1)
				expectWritten(t, w, text(math.MaxUint64, lead)+text(n, width)+"0001")
			}
		}
	}
}

// P2.1: widths 0 and 64 in bytes that are written out.
func TestPutExtremeWidths(t *testing.T) {
	w := bits.NewWriter().Put(0x0123456789ABCDEF, 64)
	if got := w.Bytes(); w.Len() != 64 || !bytes.Equal(got, []byte{0x01, 0x23, 0x45, 0x67, 0x89, 0xAB, 0xCD, 0xEF}) {
		t.Errorf("width 64: Len = %d, Bytes = %X", w.Len(), got)
	}
	w = bits.NewWriter().Put(1, 4).Put(0x0123456789ABCDEF, 64)
	if got := w.Bytes(); w.Len() != 68 || !bytes.Equal(got, []byte{0x10, 0x12, 0x34, 0x56, 0x78, 0x9A, 0xBC, 0xDE, 0xF0}) {
		t.Errorf("width 64 after 4 bits: Len = %d, Bytes = %X", w.Len(), got)
	}
	w = bits.NewWriter().Put(math.MaxUint64, 0)
	if w.Len() != 0 || len(w.Bytes()) != 0 {
		t.Errorf("width 0: Len = %d, Bytes = %X", w.Len(), w.Bytes())
	}
	expectWritten(t, w.Put(1, 1).Put(math.MaxUint64, 0).Put(1, 1), "11")
}

// P2.1: many fields in a row.
func TestPutSequence(t *testing.T) {
	next := pseudo()
	for range 100 {
		w, want := bits.NewWriter(), ""
		for _, f := range fieldsOf(next, 40) {
			w.Put(f.n, f.width)
			want += text(f.n, f.width)
			expectWritten(t, w, want)
		}
	}
}

// P2.1: Put returns its writer, whether the width is valid or not.
func TestPutReturnsWriter(t *testing.T) {
	w := bits.NewWriter()
	for width := -3; width < 70; width++ {
		if w.Put(1, width) != w {
			t.Errorf("Put with width %d returned another pointer", width)
		}
	}
	for _, width := range invalidWidths {
		if w.Put(1, width) != w {
			t.Errorf("Put with width %d returned another pointer", width)
		}
	}
}

// P2.1: an invalid width appends nothing, wherever in a byte it is used, and writing goes on after it.
func TestPutInvalidWidths(t *testing.T) {
	for lead := range 10 {
		for _, width := range invalidWidths {
			w := bits.NewWriter().Put(0x155, lead)
			for _, n := range numbers {
				w.Put(n, width)
				expectWritten(t, w, text(0x155, lead))
			}
			w.Put(0x25, 7)
			expectWritten(t, w, text(0x155, lead)+"0100101")
		}
	}
}

// P2.1: writing continues after Bytes, within the last byte and after a full one.
func TestWriteAfterBytes(t *testing.T) {
	w, want := bits.NewWriter(), ""
	for i := range 50 {
		w.Put(1, i%4)
		want += text(1, i%4)
		first, second := w.Bytes(), w.Bytes()
		if !bytes.Equal(first, second) || !bytes.Equal(first, pack(want)) {
			t.Fatalf("Bytes twice: %X and %X, want %X", first, second, pack(want))
		}
	}
}

// P2.1 and the rule Memory: what Bytes returned and the writer do not change each other.
func TestBytesMemory(t *testing.T) {
	w := bits.NewWriter().Put(0xAB, 8).Put(1, 1)
	first := w.Bytes()
	second := w.Bytes()
	w.Put(0x7F, 7).Put(0xCD, 8)
	if !bytes.Equal(first, []byte{0xAB, 0x80}) {
		t.Errorf("a later Put changed the result to %X", first)
	}
	first[0], first[1] = 0, 0
	_ = append(first, 0x99, 0x99)
	if !bytes.Equal(second, []byte{0xAB, 0x80}) {
		t.Errorf("two results share memory: %X", second)
	}
	if got := w.Bytes(); !bytes.Equal(got, []byte{0xAB, 0xFF, 0xCD}) {
		t.Errorf("the writer's bytes became %X", got)
	}
}

// P2.1: writers do not share bits.
func TestWritersIndependent(t *testing.T) {
	v, w := bits.NewWriter(), bits.NewWriter()
	v.Put(5, 3)
	w.Put(2, 3)
	v.Put(1, 1)
	expectWritten(t, v, "1011")
	expectWritten(t, w, "010")
}

// P2.2: the second example of the chapter.
func TestReaderExample(t *testing.T) {
	r := bits.NewReader([]byte{0xAF})
	expectLeft(t, r, 8)
	if n := r.Get(3); n != 5 {
		t.Errorf("Get(3) = %d, want 5", n)
	}
	if n := r.Get(2); n != 1 {
		t.Errorf("Get(2) = %d, want 1", n)
	}
	expectLeft(t, r, 3)
	if n := r.Get(4); n != 0 {
		t.Errorf("Get(4) = %d, want 0", n)
	}
	expectFailed(t, r)
}

// P2.2: every valid width at every position in a byte, up to the last bit.
func TestGetWidths(t *testing.T) {
	digits := text(0xFEDCBA9876543210, 64) + text(0x5AA50FF0C3963C69, 64)
	b := pack(digits)
	for lead := range 129 {
		for width := 0; width <= 64 && lead+width <= 128; width++ {
			r := bits.NewReader(b)
			r.Skip(lead)
			expectLeft(t, r, 128-lead)
			if got, want := r.Get(width), number(digits[lead:lead+width]); got != want {
				t.Fatalf("Get(%d) after %d bits = %X, want %X", width, lead, got, want)
			}
			expectLeft(t, r, 128-lead-width)
		}
	}
}

// P2.2: Get and Skip in any order, until too few bits remain.
func TestReadSequence(t *testing.T) {
	next := pseudo()
	for range 200 {
		digits := ""
		for range int(next() % 30) {
			digits += text(next(), 8)
		}
		r := bits.NewReader(pack(digits))
		for {
			width := int(next() % 65)
			skip := next()%4 == 0
			if skip {
				width *= 2
			}
			if width > len(digits) {
				if skip {
					r.Skip(width)
				} else if n := r.Get(width); n != 0 {
					t.Fatalf("Get(%d) of %d bits = %X", width, len(digits), n)
				}
				expectFailed(t, r)
				break
			}
			if skip {
				r.Skip(width)
			} else if got, want := r.Get(width), number(digits[:width]); got != want {
				t.Fatalf("Get(%d) = %X, want %X", width, got, want)
			}
			digits = digits[width:]
			expectLeft(t, r, len(digits))
		}
	}
}

// P2.2: a reader of no bytes has not failed; it fails as soon as a bit is requested.
func TestReaderOfNothing(t *testing.T) {
	for _, b := range [][]byte{nil, {}} {
		r := bits.NewReader(b)
		if r == nil {
			t.Fatal("NewReader returned nil")
		}
		expectLeft(t, r, 0)
		if n := r.Get(0); n != 0 {
			t.Errorf("Get(0) = %X", n)
		}
		r.Skip(0)
		expectLeft(t, r, 0)
		if n := r.Get(1); n != 0 {
			t.Errorf("Get(1) = %X", n)
		}
		expectFailed(t, r)
		r = bits.NewReader(b)
		r.Skip(1)
		expectFailed(t, r)
	}
}

// P2.2: all bits can be requested, and nothing after them but width 0.
func TestReadToTheEnd(t *testing.T) {
	for size := range 9 {
		b := bytes.Repeat([]byte{0xFF}, size)
		r := bits.NewReader(b)
		if got, want := r.Get(8*size), number(strings.Repeat("1", 8*size)); got != want {
			t.Errorf("Get of all %d bytes = %X, want %X", size, got, want)
		}
		expectLeft(t, r, 0)
		r.Get(0)
		r.Skip(0)
		expectLeft(t, r, 0)
		r.Get(1)
		expectFailed(t, r)
		// With 8 bytes, the width 65 would be invalid anyway.
		if size == 8 {
			continue
		}
		r = bits.NewReader(b)
		if n := r.Get(8*size + 1); n != 0 {
			t.Errorf("Get of one bit too many = %X", n)
		}
		expectFailed(t, r)
	}
}

// P2.2: Get with an invalid width fails, however many bits remain.
func TestGetInvalidWidths(t *testing.T) {
	b := bytes.Repeat([]byte{0xFF}, 100)
	for _, width := range invalidWidths {
		for _, lead := range []int{0, 1, 13, 800} {
			r := bits.NewReader(b)
			r.Skip(lead)
			expectLeft(t, r, 800-lead)
			if n := r.Get(width); n != 0 {
				t.Errorf("Get(%d) = %X", width, n)
			}
			expectFailed(t, r)
		}
	}
}

// P2.2: Skip passes over any number of bits that remain, also more than 64.
func TestSkipWidths(t *testing.T) {
	b := pack(strings.Repeat("1", 200) + text(0xA5, 8))
	r := bits.NewReader(b)
	for _, width := range []int{0, 1, 64, 65, 70} {
		r.Skip(width)
	}
	expectLeft(t, r, 8)
	if n := r.Get(8); n != 0xA5 {
		t.Errorf("Get(8) = %X, want A5", n)
	}
	for width := range 209 {
		r = bits.NewReader(b)
		r.Skip(width)
		expectLeft(t, r, 208-width)
	}
}

// P2.2: Skip fails if the width is negative or greater than what remains.
func TestSkipFails(t *testing.T) {
	for _, width := range []int{-1, -64, math.MinInt, 17, 65, 1 << 32, math.MaxInt - 7, math.MaxInt} {
		r := bits.NewReader([]byte{0xFF, 0xFF})
		r.Skip(width)
		expectFailed(t, r)
	}
	for _, width := range []int{-5, -1, math.MinInt, 12, math.MaxInt - 4, math.MaxInt} {
		r := bits.NewReader([]byte{0xFF, 0xFF})
		r.Get(5)
		r.Skip(width)
		expectFailed(t, r)
	}
}

// P2.2: a failure ends the reading, although the requested bits of a smaller width would remain.
func TestReadAfterFailure(t *testing.T) {
	fail := map[string]func(r *bits.Reader){
		"Get with a negative width": func(r *bits.Reader) { r.Get(-1) },
		"Get with the width 65":     func(r *bits.Reader) { r.Get(65) },
		"Get of too many bits":      func(r *bits.Reader) { r.Get(12) },
		"Skip backwards":            func(r *bits.Reader) { r.Skip(-1) },
		"Skip of too many bits":     func(r *bits.Reader) { r.Skip(12) },
	}
	for name, step := range fail {
		t.Run(name, func(t *testing.T) {
			r := bits.NewReader([]byte{0xFF, 0xFF})
			r.Get(5)
			step(r)
			expectFailed(t, r)
		})
	}
}

// P2.2 and the rule Memory: the bytes of a reader are neither changed nor retained, and readers of the same bytes are independent.
func TestReaderMemory(t *testing.T) {
	b := []byte{0x12, 0x34, 0x56}
	r, s := bits.NewReader(b), bits.NewReader(b)
	r.Get(4)
	b[0], b[1], b[2] = 0xFF, 0xFF, 0xFF
	if n := r.Get(20); n != 0x23456 {
		t.Errorf("Get(20) = %X, want 23456", n)
	}
	r.Get(1)
	expectFailed(t, r)
	expectLeft(t, s, 24)
	if n := s.Get(24); n != 0x123456 {
		t.Errorf("Get(24) = %X, want 123456", n)
	}
	if !bytes.Equal(b, []byte{0xFF, 0xFF, 0xFF}) {
		t.Errorf("the bytes became %X", b)
	}
}

// expectRead checks that a reader of the bytes of w returns fields and then fewer than 8 zero bits.
func expectRead(t *testing.T, w *bits.Writer, fields []field) {
	t.Helper()
	r := bits.NewReader(w.Bytes())
	left := 8 * len(w.Bytes())
	for i, f := range fields {
		if got, want := r.Get(f.width), number(text(f.n, f.width)); got != want {
			t.Fatalf("field %d of width %d = %X, want %X", i, f.width, got, want)
		}
		left -= f.width
		expectLeft(t, r, left)
	}
	if left >= 8 {
		t.Fatalf("%d bits remain", left)
	}
	if n := r.Get(left); n != 0 {
		t.Fatalf("the remaining %d bits are %X", left, n)
	}
	expectLeft(t, r, 0)
}

// P2.3: fields of every width, one, two and many of them.
func TestRoundTrip(t *testing.T) {
	expectRead(t, bits.NewWriter(), nil)
	for first := range 65 {
		for _, n := range numbers {
			expectRead(t, bits.NewWriter().Put(n, first), []field{{n, first}})
		}
		for second := range 65 {
			fields := []field{{math.MaxUint64, first}, {0xFEDCBA9876543210, second}}
			expectRead(t, bits.NewWriter().Put(fields[0].n, first).Put(fields[1].n, second), fields)
		}
	}
	next := pseudo()
	for range 300 {
		w, fields := bits.NewWriter(), fieldsOf(next, 50)
		for _, f := range fields {
			w.Put(f.n, f.width)
			w.Put(f.n, 65).Put(f.n, -1)
		}
		expectRead(t, w, fields)
	}
}

// P2.4: every width in two parts, also with an empty one, at every position in a byte.
func TestPutInParts(t *testing.T) {
	for lead := range 8 {
		for a := range 65 {
			for b := 0; a+b <= 64; b++ {
				for _, n := range []uint64{0x0123456789ABCDEF, math.MaxUint64} {
					whole := bits.NewWriter().Put(1, lead).Put(n, a+b).Put(1, 2)
					parts := bits.NewWriter().Put(1, lead).Put(n>>b, a).Put(n, b).Put(1, 2)
					if whole.Len() != parts.Len() || !bytes.Equal(whole.Bytes(), parts.Bytes()) {
						t.Fatalf("%X with the widths %d and %d after %d bits: %X, as a whole %X", n, a, b, lead, parts.Bytes(), whole.Bytes())
					}
				}
			}
		}
	}
}

// P2.4: a number that was put is its two parts also when it is read.
func TestGetInParts(t *testing.T) {
	const n = 0xFEDCBA9876543210
	for a := range 65 {
		b := 64 - a
		r := bits.NewReader(bits.NewWriter().Put(5, 3).Put(n, 64).Bytes())
		r.Skip(3)
		if upper, lower := r.Get(a), r.Get(b); upper != number(text(n, 64)[:a]) || lower != number(text(n, 64)[a:]) {
			t.Errorf("the parts of the widths %d and %d are %X and %X", a, b, upper, lower)
		}
		expectLeft(t, r, 5)
	}
}

// P2.5: a nil writer and a zero value return zero values, whatever is put.
func TestWriterNil(t *testing.T) {
	for _, w := range []*bits.Writer{nil, {}, new(bits.Writer)} {
		for _, width := range append([]int{0, 1, 8, 64}, invalidWidths...) {
			if w.Put(math.MaxUint64, width) != nil {
				t.Errorf("Put with width %d did not return nil", width)
			}
			if w.Len() != 0 || w.Bytes() != nil {
				t.Errorf("Len = %d, Bytes = %X", w.Len(), w.Bytes())
			}
		}
	}
	if bits.NewWriter().Put(1, 4).Put(1, 65) == nil {
		t.Error("a writer of NewWriter is taken for a zero value")
	}
	var w *bits.Writer
	if w.Put(1, 1).Put(2, 2).Len() != 0 {
		t.Error("a chain of calls on nil wrote bits")
	}
}

// P2.5: a nil reader and a zero value return zero values and never fail.
func TestReaderNil(t *testing.T) {
	for _, r := range []*bits.Reader{nil, {}, new(bits.Reader)} {
		for _, width := range append([]int{0, 1, 8, 64}, invalidWidths...) {
			if n := r.Get(width); n != 0 {
				t.Errorf("Get(%d) = %X", width, n)
			}
			r.Skip(width)
			if r.Left() != 0 || r.Failed() {
				t.Errorf("after width %d: Left = %d, Failed = %t", width, r.Left(), r.Failed())
			}
		}
	}
}
