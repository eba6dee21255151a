package octets_test

import (
	"bytes"
	"math"
	"math/big"
	"slices"
	"strings"
	"testing"

	"spacecraft/octets"
)

// ints are the integers at which the number of bytes or the sign changes, and the extreme ones.
var ints = []int{
	0, -1, 1, -2, 2, 62, 63, 64, 65, -63, -64, -65, -66, 127, 128, 255, 256,
	8191, 8192, -8192, -8193, 1<<20 - 1, 1 << 20, -1 << 20, -1<<20 - 1,
	1 << 31, -1 << 31, 1 << 40, 1<<55 - 1, 1 << 55, 1<<62 - 1, 1 << 62, -1 << 62, -1<<62 - 1,
	math.MaxInt - 1, math.MaxInt, math.MinInt + 1, math.MinInt,
}

// numbers contains numbers whose bytes show a wrong order, a lost byte and a byte too many.
var numbers = []uint64{0, 1, 0x5A, 0x80, 0xFF, 0x100, 0x8000000000000001, 0x0123456789ABCDEF, 0xFEDCBA9876543210, math.MaxUint64}

// invalidSizes are invalid for Uint of both types.
var invalidSizes = []int{0, 9, -1, 10, 16, 64, -8, 1 << 32, 1<<32 + 1, math.MinInt, math.MaxInt}

// pseudo returns numbers that follow no simple rule but are the same in every run.
func pseudo() func() uint64 {
	x := uint64(0x9E3779B97F4A7C15)
	return func() uint64 {
		x ^= x << 13
		x ^= x >> 7
		x ^= x << 17
		return x
	}
}

// pattern returns n bytes that follow no simple rule.
func pattern(next func() uint64, n int) []byte {
	b := make([]byte, n)
	for i := range b {
		b[i] = byte(next() >> 24)
	}
	return b
}

// power is 2 to the given exponent.
func power(exponent uint) *big.Int { return new(big.Int).Lsh(big.NewInt(1), exponent) }

// literalInt is the encoding of Int word for word, with integers of any size.
func literalInt(n int) []byte {
	z := new(big.Int).Mul(big.NewInt(2), big.NewInt(int64(n)))
	if n < 0 {
		z.Neg(z).Sub(z, big.NewInt(1))
	}
	var b []byte
	for {
		group := new(big.Int)
		z.DivMod(z, big.NewInt(128), group)
		if z.Sign() == 0 {
			return append(b, byte(group.Int64()))
		}
		b = append(b, byte(group.Int64()+128))
	}
}

// literalRead is the reading of an integer word for word; it returns the integer and the number of its bytes, or 0 bytes
// if b does not begin with an encoding.
func literalRead(b []byte) (int, int) {
	size := 1 + slices.IndexFunc(b, func(x byte) bool { return x < 128 })
	if size == 0 || size > 1 && b[size-1] == 0 {
		return 0, 0
	}
	z := new(big.Int)
	for _, x := range slices.Backward(b[:size]) {
		z.Mul(z, big.NewInt(128)).Add(z, big.NewInt(int64(x%128)))
	}
	if z.Cmp(power(64)) >= 0 {
		return 0, 0
	}
	if z.Bit(0) == 0 {
		return int(z.Rsh(z, 1).Int64()), size
	}
	z.Add(z, big.NewInt(1)).Rsh(z, 1).Neg(z)
	return int(z.Int64()), size
}

// literalUint returns the low size bytes of n, most significant byte first.
func literalUint(n uint64, size int) []byte {
	b := make([]byte, size)
	for i := range b {
		b[size-1-i] = byte(n)
		n /= 256
	}
	return b
}

func expectBytes(t *testing.T, w *octets.Writer, want []byte) {
	t.Helper()
	if got := w.Bytes(); !bytes.Equal(got, want) {
		t.Fatalf("Bytes = %X, want %X", got, want)
	}
}

// expectLeft checks that r has not failed and that left bytes remain.
func expectLeft(t *testing.T, r *octets.Reader, left int) {
	t.Helper()
	if r.Left() != left || r.Failed() || r.End() != (left == 0) {
		t.Fatalf("Left = %d, Failed = %t, End = %t, want %d, false and %t", r.Left(), r.Failed(), r.End(), left, left == 0)
	}
}

// expectNothing checks that every read of r returns a zero value and changes neither Left nor Failed nor End.
func expectNothing(t *testing.T, r *octets.Reader, failed bool) {
	t.Helper()
	for _, k := range []int{0, 1, 2, 8, 9, -1, 300, math.MaxInt, math.MinInt} {
		n, i, c, b := r.Uint(k), r.Int(), r.Count(k), r.Blob(k)
		if n != 0 || i != 0 || c != 0 || len(b) != 0 {
			t.Fatalf("Uint(%d) = %X, Int = %d, Count(%d) = %d, Blob(%d) = %X, want nothing", k, n, i, k, c, k, b)
		}
		if r.Left() != 0 || r.Failed() != failed || r.End() {
			t.Fatalf("Left = %d, Failed = %t, End = %t, want 0, %t and false", r.Left(), r.Failed(), r.End(), failed)
		}
	}
}

func expectFailed(t *testing.T, r *octets.Reader) {
	t.Helper()
	if r.Left() != 0 || !r.Failed() || r.End() {
		t.Fatalf("Left = %d, Failed = %t, End = %t, want 0, true and false", r.Left(), r.Failed(), r.End())
	}
	expectNothing(t, r, true)
}

// P3.1: the first example of the chapter.
func TestWriterExamples(t *testing.T) {
	expectBytes(t, octets.NewWriter().Int(-1), []byte{0x01})
	expectBytes(t, octets.NewWriter().Int(64), []byte{0x80, 0x01})
	expectBytes(t, octets.NewWriter().Blob([]byte("ab")), []byte{0x04, 0x61, 0x62})
	w := octets.NewWriter().Int(-1).Int(64).Blob([]byte("ab"))
	expectBytes(t, w, []byte{0x01, 0x80, 0x01, 0x04, 0x61, 0x62})
}

// P3.1: a new Writer contains nothing, and two of them are independent.
func TestNewWriter(t *testing.T) {
	w := octets.NewWriter()
	if w == nil {
		t.Fatal("NewWriter returned nil")
	}
	expectBytes(t, w, nil)
	other := octets.NewWriter().Int(5)
	expectBytes(t, w, nil)
	w.Int(7)
	expectBytes(t, other, []byte{10})
}

// P3.1: every valid size; the bytes of the number above the size do not count.
func TestWriteUint(t *testing.T) {
	for size := 1; size <= 8; size++ {
		for _, n := range numbers {
			expectBytes(t, octets.NewWriter().Uint(n, size), literalUint(n, size))
			want := append(append([]byte{0xEE}, literalUint(n, size)...), 0x12, 0x34)
			expectBytes(t, octets.NewWriter().Uint(0xEE, 1).Uint(n, size).Uint(0x1234, 2), want)
		}
	}
}

// P3.1: the sizes 1, 3 and 8 in bytes that are written out.
func TestWriteUintValues(t *testing.T) {
	const n = 0x0123456789ABCDEF
	expectBytes(t, octets.NewWriter().Uint(n, 1), []byte{0xEF})
	expectBytes(t, octets.NewWriter().Uint(n, 3), []byte{0xAB, 0xCD, 0xEF})
	expectBytes(t, octets.NewWriter().Uint(n, 8), []byte{0x01, 0x23, 0x45, 0x67, 0x89, 0xAB, 0xCD, 0xEF})
	expectBytes(t, octets.NewWriter().Uint(1, 8), []byte{0, 0, 0, 0, 0, 0, 0, 1})
	expectBytes(t, octets.NewWriter().Uint(0, 2), []byte{0, 0})
}

// P3.1: an invalid size appends nothing, and writing goes on after it.
func TestWriteUintInvalid(t *testing.T) {
	for _, size := range invalidSizes {
		w := octets.NewWriter().Uint(math.MaxUint64, size)
		expectBytes(t, w, nil)
		w.Uint(7, 1).Uint(math.MaxUint64, size).Uint(8, 1)
		expectBytes(t, w, []byte{7, 8})
	}
}

// P3.1: encodings that are written out, with the first integers of two and three bytes and the extreme ones.
func TestWriteIntValues(t *testing.T) {
	for _, c := range []struct {
		n    int
		want string
	}{
		{0, "\x00"},
		{-1, "\x01"},
		{1, "\x02"},
		{-2, "\x03"},
		{63, "\x7E"},
		{-64, "\x7F"},
		{64, "\x80\x01"},
		{-65, "\x81\x01"},
		{8191, "\xFE\x7F"},
		{-8192, "\xFF\x7F"},
		{8192, "\x80\x80\x01"},
		{math.MaxInt, "\xFE\xFF\xFF\xFF\xFF\xFF\xFF\xFF\xFF\x01"},
		{math.MinInt, "\xFF\xFF\xFF\xFF\xFF\xFF\xFF\xFF\xFF\x01"},
		{1 << 62, "\x80\x80\x80\x80\x80\x80\x80\x80\x80\x01"},
		{1<<62 - 1, "\xFE\xFF\xFF\xFF\xFF\xFF\xFF\xFF\x7F"},
	} {
		if got := octets.NewWriter().Int(c.n).Bytes(); string(got) != c.want {
			t.Errorf("Int(%d) appends %X, want %X", c.n, got, c.want)
		}
	}
}

// P3.1: the definition, for many integers.
func TestWriteInt(t *testing.T) {
	for n := -20000; n <= 20000; n++ {
		expectBytes(t, octets.NewWriter().Int(n), literalInt(n))
	}
	for _, n := range ints {
		expectBytes(t, octets.NewWriter().Int(n), literalInt(n))
		expectBytes(t, octets.NewWriter().Uint(0xFF, 1).Int(n).Int(0), slices.Concat([]byte{0xFF}, literalInt(n), []byte{0}))
	}
	next := pseudo()
	for range 2000 {
		n := int(next()) >> (next() % 64)
		expectBytes(t, octets.NewWriter().Int(n), literalInt(n))
	}
}

// P3.1: the length by Int, then the bytes; an empty and a nil byte string are the same.
func TestWriteBlob(t *testing.T) {
	expectBytes(t, octets.NewWriter().Blob(nil), []byte{0})
	expectBytes(t, octets.NewWriter().Blob([]byte{}), []byte{0})
	expectBytes(t, octets.NewWriter().Blob([]byte{0x80}).Blob(nil).Blob([]byte{5, 0}), []byte{2, 0x80, 0, 4, 5, 0})
	next := pseudo()
	for _, size := range []int{1, 2, 62, 63, 64, 65, 127, 128, 255, 256, 8191, 8192, 70000} {
		b := pattern(next, size)
		want := slices.Concat(literalInt(size), b)
		expectBytes(t, octets.NewWriter().Blob(b), want)
	}
}

// P3.1: every method returns its Writer, whether the size is valid or not.
func TestWriterReturnsItself(t *testing.T) {
	w := octets.NewWriter()
	for size := -3; size < 12; size++ {
		if w.Uint(1, size) != w {
			t.Errorf("Uint with size %d returned another pointer", size)
		}
	}
	for _, size := range invalidSizes {
		if w.Uint(1, size) != w {
			t.Errorf("Uint with size %d returned another pointer", size)
		}
	}
	for _, n := range ints {
		if w.Int(n) != w {
			t.Errorf("Int(%d) returned another pointer", n)
		}
	}
	if w.Blob(nil) != w || w.Blob([]byte("ab")) != w {
		t.Error("Blob returned another pointer")
	}
}

// P3.1 and the rule Memory: Bytes returns everything each time, in memory that nothing else uses.
func TestBytesMemory(t *testing.T) {
	w := octets.NewWriter()
	var want []byte
	for i := range 200 {
		w.Uint(uint64(i), 1)
		want = append(want, byte(i))
		got := w.Bytes()
		if !bytes.Equal(got, want) || !bytes.Equal(w.Bytes(), want) {
			t.Fatalf("after %d bytes: %X", i+1, got)
		}
		for k := range got {
			got[k] ^= 0xFF
		}
		_ = append(got, 0xEE)
		expectBytes(t, w, want)
	}
	early := w.Bytes()
	w.Int(-1).Blob([]byte("ab")).Uint(9, 8)
	if !bytes.Equal(early, want) {
		t.Error("writing changed an earlier result")
	}
}

// P3.1 and the rule Memory: a byte string is neither changed nor kept.
func TestBlobArgument(t *testing.T) {
	room := []byte("abcdef")
	w := octets.NewWriter().Blob(room[:2]).Uint(0x2A, 1)
	w.Bytes()[1] = 'x'
	if string(room) != "abcdef" {
		t.Errorf("the argument became %q", room)
	}
	room[0] = 'y'
	expectBytes(t, w, []byte("\x04ab\x2A"))
}

// P3.2, P3.3: the second example of the chapter.
func TestReaderExample(t *testing.T) {
	r := octets.NewReader([]byte{0x80, 0x00})
	expectLeft(t, r, 2)
	if n := r.Int(); n != 0 {
		t.Errorf("Int = %d", n)
	}
	expectFailed(t, r)
	r = octets.NewReader([]byte{0x00})
	if n := r.Int(); n != 0 {
		t.Errorf("Int = %d", n)
	}
	expectLeft(t, r, 0)
}

// P3.2: a reader of the first example's bytes.
func TestReaderValues(t *testing.T) {
	r := octets.NewReader([]byte{0x01, 0x80, 0x01, 0x04, 0x61, 0x62, 0x12, 0x34})
	if n := r.Int(); n != -1 {
		t.Errorf("Int = %d, want -1", n)
	}
	expectLeft(t, r, 7)
	if n := r.Count(64); n != 64 {
		t.Errorf("Count = %d, want 64", n)
	}
	expectLeft(t, r, 5)
	if b := r.Blob(2); string(b) != "ab" {
		t.Errorf("Blob = %q, want ab", b)
	}
	expectLeft(t, r, 2)
	if n := r.Uint(2); n != 0x1234 {
		t.Errorf("Uint = %X, want 1234", n)
	}
	expectLeft(t, r, 0)
}

// P3.2: every valid size, also if exactly its bytes are left; one byte too few makes it fail.
func TestReadUint(t *testing.T) {
	for size := 1; size <= 8; size++ {
		for _, n := range numbers {
			b := literalUint(n, size)
			want := n
			if size < 8 {
				want = n % (1 << (8 * size))
			}
			for extra := range 3 {
				r := octets.NewReader(append(bytes.Clone(b), make([]byte, extra)...))
				if got := r.Uint(size); got != want {
					t.Fatalf("Uint(%d) of %X = %X, want %X", size, b, got, want)
				}
				expectLeft(t, r, extra)
			}
		}
		for missing := 1; missing <= size; missing++ {
			r := octets.NewReader(bytes.Repeat([]byte{0xFF}, size-missing))
			if n := r.Uint(size); n != 0 {
				t.Fatalf("Uint(%d) of %d bytes = %X", size, size-missing, n)
			}
			expectFailed(t, r)
		}
	}
}

// P3.2: an invalid size makes a Reader fail, however many bytes are left.
func TestReadUintInvalid(t *testing.T) {
	for _, size := range invalidSizes {
		for _, left := range []int{0, 1, 8, 9, 100} {
			r := octets.NewReader(bytes.Repeat([]byte{0xFF}, left))
			if n := r.Uint(size); n != 0 {
				t.Fatalf("Uint(%d) = %X", size, n)
			}
			expectFailed(t, r)
		}
	}
}

// expectInt checks that Int reads b as the definition does.
func expectInt(t *testing.T, b []byte) {
	t.Helper()
	r := octets.NewReader(b)
	want, size := literalRead(b)
	if got := r.Int(); got != want {
		t.Fatalf("Int of %X = %d, want %d", b, got, want)
	}
	if size == 0 {
		expectFailed(t, r)
		return
	}
	expectLeft(t, r, len(b)-size)
}

// P3.2: the definition, for all short inputs and for inputs of all lengths with any last byte.
func TestReadInt(t *testing.T) {
	expectInt(t, nil)
	for x := range 256 {
		expectInt(t, []byte{byte(x)})
		for y := range 256 {
			expectInt(t, []byte{byte(x), byte(y)})
			for _, z := range []byte{0, 1, 0x7F, 0x80, 0xFF} {
				expectInt(t, []byte{byte(x), byte(y), z})
			}
		}
	}
	for _, lead := range []byte{0x80, 0x81, 0xC0, 0xFE, 0xFF} {
		for size := range 25 {
			for last := range 256 {
				b := append(bytes.Repeat([]byte{lead}, size), byte(last))
				expectInt(t, b)
				expectInt(t, append(b, 0x05))
			}
		}
	}
	next := pseudo()
	for range 20000 {
		b := pattern(next, int(next()%12))
		for i := range b {
			b[i] |= byte(next()>>40) & 0x80
		}
		expectInt(t, b)
	}
}

// P3.2: every integer is read back, and its encoding without its last byte or with a byte 0 more is none.
func TestReadIntValues(t *testing.T) {
	for _, n := range ints {
		b := literalInt(n)
		r := octets.NewReader(b)
		if got := r.Int(); got != n {
			t.Fatalf("Int of %X = %d, want %d", b, got, n)
		}
		expectLeft(t, r, 0)
		expectInt(t, b[:len(b)-1])
		short := octets.NewReader(b[:len(b)-1])
		if got := short.Int(); got != 0 {
			t.Fatalf("Int of %X = %d", b[:len(b)-1], got)
		}
		expectFailed(t, short)
		long := bytes.Clone(b)
		long[len(b)-1] |= 0x80
		for range 12 {
			r = octets.NewReader(append(long, 0))
			if got := r.Int(); got != 0 {
				t.Fatalf("Int of %X00 = %d", long, got)
			}
			expectFailed(t, r)
			long = append(long, 0x80)
		}
	}
}

// P3.2: the greatest z is 2^64 - 1.
func TestReadIntTooLarge(t *testing.T) {
	lead := strings.Repeat("\xFF", 9)
	if n := octets.NewReader([]byte(lead + "\x01")).Int(); n != math.MinInt {
		t.Errorf("2^64 - 1 stands for %d", n)
	}
	for _, tail := range []string{"\x02", "\x03", "\x7F", "\x81\x01", "\x80\x01", "\x81\x00", "\xFF\x7F", "\x82\x80\x01"} {
		for _, head := range []string{lead, strings.Repeat("\x80", 9)} {
			r := octets.NewReader([]byte(head + tail))
			if n := r.Int(); n != 0 {
				t.Errorf("Int of %X = %d", head+tail, n)
			}
			expectFailed(t, r)
		}
	}
}

// P3.2: Count reads the integers from 0 to most, and no others.
func TestCount(t *testing.T) {
	for _, n := range ints {
		b := append(literalInt(n), 0x55)
		for _, most := range append([]int{n - 1, n, n + 1, -n}, ints...) {
			r := octets.NewReader(b)
			got := r.Count(most)
			if n < 0 || n > most {
				if got != 0 {
					t.Fatalf("Count(%d) of %d = %d", most, n, got)
				}
				expectFailed(t, r)
				continue
			}
			if got != n {
				t.Fatalf("Count(%d) = %d, want %d", most, got, n)
			}
			expectLeft(t, r, 1)
		}
	}
}

// P3.2: Count fails where Int does, and for a negative most even at 0.
func TestCountInvalid(t *testing.T) {
	for _, b := range []string{"", "\x80", "\x80\x00", "\xFF\xFF\xFF\xFF\xFF\xFF\xFF\xFF\xFF\x02"} {
		r := octets.NewReader([]byte(b))
		if n := r.Count(math.MaxInt); n != 0 {
			t.Errorf("Count of %X = %d", b, n)
		}
		expectFailed(t, r)
	}
	for _, most := range []int{-1, -2, math.MinInt} {
		r := octets.NewReader([]byte{0, 0})
		if n := r.Count(most); n != 0 {
			t.Errorf("Count(%d) = %d", most, n)
		}
		expectFailed(t, r)
	}
	r := octets.NewReader([]byte{0, 7})
	if n := r.Count(0); n != 0 {
		t.Errorf("Count(0) = %d", n)
	}
	expectLeft(t, r, 1)
}

// P3.2: Blob at most and beyond most, with bytes after it.
func TestReadBlob(t *testing.T) {
	next := pseudo()
	for _, size := range []int{0, 1, 2, 63, 64, 65, 8191, 8192} {
		b := pattern(next, size)
		input := slices.Concat(literalInt(size), b, []byte{1, 2, 3})
		for _, most := range []int{size, size + 1, 65536, math.MaxInt} {
			r := octets.NewReader(input)
			if got := r.Blob(most); !bytes.Equal(got, b) {
				t.Fatalf("Blob(%d) = %X, want %X", most, got, b)
			}
			expectLeft(t, r, 3)
		}
		for _, most := range []int{size - 1, -1, -size - 1, math.MinInt} {
			r := octets.NewReader(input)
			if got := r.Blob(most); len(got) != 0 {
				t.Fatalf("Blob(%d) of %d bytes = %X", most, size, got)
			}
			expectFailed(t, r)
		}
	}
}

// P3.2: Blob fails if its length or one of its bytes is missing, or if its length is not an encoding or negative.
func TestReadBlobInvalid(t *testing.T) {
	whole := slices.Concat(literalInt(100), make([]byte, 100))
	for size := range whole {
		r := octets.NewReader(whole[:size])
		if b := r.Blob(100); len(b) != 0 {
			t.Fatalf("Blob of %d bytes = %X", size, b)
		}
		expectFailed(t, r)
	}
	for _, b := range []string{
		"\x80\x00", "\x82\x00a", "\x01", "\x01a", "\x03abc",
		"\xFE\xFF\xFF\xFF\xFF\xFF\xFF\xFF\xFF\x01abc", "\xFF\xFF\xFF\xFF\xFF\xFF\xFF\xFF\xFF\x01abc",
		"\xFF\xFF\xFF\xFF\xFF\xFF\xFF\xFF\xFF\x02abc",
	} {
		r := octets.NewReader([]byte(b))
		if got := r.Blob(math.MaxInt); len(got) != 0 {
			t.Fatalf("Blob of %X = %X", b, got)
		}
		expectFailed(t, r)
	}
}

// P3.2 and the rule Memory: a Reader keeps no argument, and its results are new memory.
func TestReaderMemory(t *testing.T) {
	b := []byte("\x04ab\x04cd\x07")
	kept := bytes.Clone(b)
	r := octets.NewReader(b)
	for i := range b {
		b[i] = 0xFF
	}
	first := r.Blob(9)
	first[1] = 'x'
	_ = append(first, 0xEE, 0xEE, 0xEE)
	second := r.Blob(9)
	if string(first) != "ax" || string(second) != "cd" || r.Uint(1) != 7 {
		t.Errorf("the byte strings are %q and %q", first, second)
	}
	b = bytes.Clone(kept)
	r = octets.NewReader(b)
	r.Blob(9)[0] = 'y'
	r.Int()
	r.Uint(3)
	r.Int()
	if !bytes.Equal(b, kept) {
		t.Errorf("the argument became %q", b)
	}
}

// P3.3: a Reader of nothing is at its end, has not failed, and fails with every read.
func TestReaderOfNothing(t *testing.T) {
	reads := map[string]func(r *octets.Reader){
		"Uint":  func(r *octets.Reader) { r.Uint(1) },
		"Int":   func(r *octets.Reader) { r.Int() },
		"Count": func(r *octets.Reader) { r.Count(5) },
		"Blob":  func(r *octets.Reader) { r.Blob(5) },
	}
	for name, read := range reads {
		for _, b := range [][]byte{nil, {}} {
			r := octets.NewReader(b)
			if r == nil {
				t.Fatal("NewReader returned nil")
			}
			expectLeft(t, r, 0)
			read(r)
			if !r.Failed() {
				t.Errorf("%s of nothing does not fail", name)
			}
			expectFailed(t, r)
		}
	}
}

// P3.2, P3.3: after a failure nothing is left, although more bytes were there.
func TestReadingOnAfterFailure(t *testing.T) {
	good := []byte{0x02, 0x04, 0x61, 0x62}
	fails := map[string]func(r *octets.Reader){
		"Uint(0)":   func(r *octets.Reader) { r.Uint(0) },
		"Uint(9)":   func(r *octets.Reader) { r.Uint(9) },
		"Uint(5)":   func(r *octets.Reader) { r.Uint(5) },
		"Count(0)":  func(r *octets.Reader) { r.Count(0) },
		"Count(-1)": func(r *octets.Reader) { r.Count(-1) },
		"Blob(0)":   func(r *octets.Reader) { r.Blob(0) },
		"Blob(-1)":  func(r *octets.Reader) { r.Blob(-1) },
	}
	for name, fail := range fails {
		r := octets.NewReader(good)
		fail(r)
		if !r.Failed() {
			t.Errorf("%s does not fail", name)
		}
		expectFailed(t, r)
	}
	r := octets.NewReader(slices.Concat([]byte{0x80, 0x00}, good))
	r.Int()
	expectFailed(t, r)
}

// P3.3: reading and Left, Failed and End themselves change nothing else.
func TestQueriesChangeNothing(t *testing.T) {
	r := octets.NewReader([]byte{1, 2, 3})
	for left := 3; left > 0; left-- {
		expectLeft(t, r, left)
		expectLeft(t, r, left)
		if n := r.Uint(1); n != uint64(4-left) {
			t.Fatalf("Uint = %d, want %d", n, 4-left)
		}
	}
	expectLeft(t, r, 0)
}

// value is a value of one of the kinds that a Writer appends.
type value struct {
	kind, size int
	n          uint64
	i          int
	b          []byte
}

// The kinds of values.
const (
	ofUint = iota
	ofInt
	ofCount
	ofBlob
	kinds
)

// pick returns a value of the given kind.
func pick(next func() uint64, kind int) value {
	v := value{kind: kind, size: 1 + int(next()%8), n: next(), i: int(next()) >> (next() % 64)}
	switch kind {
	case ofCount:
		v.i &= math.MaxInt
	case ofBlob:
		v.b = pattern(next, int(next()%80))
	}
	return v
}

func write(w *octets.Writer, v value) {
	switch v.kind {
	case ofUint:
		w.Uint(v.n, v.size)
	case ofBlob:
		w.Blob(v.b)
	default:
		w.Int(v.i)
	}
}

// expectValue checks that r returns v, and writes to w what was read.
func expectValue(t *testing.T, r *octets.Reader, w *octets.Writer, v value) {
	t.Helper()
	switch v.kind {
	case ofUint:
		got := r.Uint(v.size)
		if !bytes.Equal(literalUint(got, 8), append(make([]byte, 8-v.size), literalUint(v.n, v.size)...)) {
			t.Fatalf("Uint(%d) = %X, want the low bytes of %X", v.size, got, v.n)
		}
		w.Uint(got, v.size)
	case ofInt, ofCount:
		got := r.Int
		if v.kind == ofCount {
			got = func() int { return r.Count(v.i) }
		}
		n := got()
		if n != v.i {
			t.Fatalf("the integer %d, want %d", n, v.i)
		}
		w.Int(n)
	case ofBlob:
		got := r.Blob(len(v.b))
		if !bytes.Equal(got, v.b) {
			t.Fatalf("Blob = %X, want %X", got, v.b)
		}
		w.Blob(got)
	}
}

// expectRoundTrip checks that the values are read as they were written, and written as they were read.
func expectRoundTrip(t *testing.T, values []value) {
	t.Helper()
	w, again := octets.NewWriter(), octets.NewWriter()
	for _, v := range values {
		write(w, v)
	}
	whole := w.Bytes()
	r := octets.NewReader(whole)
	for _, v := range values {
		expectValue(t, r, again, v)
		if !bytes.Equal(again.Bytes(), whole[:len(whole)-r.Left()]) {
			t.Fatalf("written again: %X, consumed: %X", again.Bytes(), whole[:len(whole)-r.Left()])
		}
	}
	expectLeft(t, r, 0)
}

// P3.4: every order of three kinds, and long sequences.
func TestRoundTrip(t *testing.T) {
	next := pseudo()
	expectRoundTrip(t, nil)
	for order := range kinds * kinds * kinds {
		for range 30 {
			expectRoundTrip(t, []value{
				pick(next, order%kinds), pick(next, order/kinds%kinds), pick(next, order/kinds/kinds),
			})
		}
	}
	for range 50 {
		var values []value
		for range 60 {
			values = append(values, pick(next, int(next()%kinds)))
		}
		expectRoundTrip(t, values)
	}
	for _, n := range ints {
		expectRoundTrip(t, []value{{kind: ofInt, i: n}, {kind: ofUint, n: uint64(n), size: 8}, {kind: ofInt, i: n}})
	}
}

// rewrite reads values from any bytes and returns the bytes that were consumed and those of the values; a read that
// fails counts for nothing.
func rewrite(next func() uint64, b []byte) (consumed, written []byte) {
	r, w := octets.NewReader(b), octets.NewWriter()
	for range 10 {
		size := 1 + int(next()%8)
		var v value
		switch v.kind = int(next() % kinds); v.kind {
		case ofUint:
			v.n, v.size = r.Uint(size), size
		case ofInt:
			v.i = r.Int()
		case ofCount:
			v.i = r.Count(math.MaxInt)
		case ofBlob:
			v.b = r.Blob(size)
		}
		if r.Failed() {
			break
		}
		write(w, v)
		consumed = b[:len(b)-r.Left()]
	}
	return consumed, w.Bytes()
}

// P3.4: what is read from bytes that no Writer made yields the bytes that were consumed.
func TestRewriteAnyBytes(t *testing.T) {
	next := pseudo()
	for range 20000 {
		b := pattern(next, 20)
		for i := range b {
			if next()>>20%2 == 0 {
				b[i] %= 8
			}
		}
		if consumed, written := rewrite(next, b); !bytes.Equal(consumed, written) {
			t.Fatalf("of %X, %X was consumed and %X written", b, consumed, written)
		}
	}
}

// The rule Nil objects, for the Writer of P3.1: nil and zero values return zero values, whatever is written.
func TestWriterNil(t *testing.T) {
	for _, w := range []*octets.Writer{nil, {}, new(octets.Writer)} {
		for _, size := range append([]int{1, 4, 8}, invalidSizes...) {
			if w.Uint(math.MaxUint64, size) != nil {
				t.Errorf("Uint with size %d did not return nil", size)
			}
		}
		if w.Int(0) != nil || w.Int(-70) != nil || w.Blob(nil) != nil || w.Blob([]byte("ab")) != nil {
			t.Error("Int or Blob did not return nil")
		}
		if b := w.Bytes(); len(b) != 0 {
			t.Errorf("Bytes = %X", b)
		}
	}
	var w *octets.Writer
	if w.Uint(1, 1).Int(2).Blob([]byte{3}) != nil {
		t.Error("a chain of calls on nil returned a Writer")
	}
	if octets.NewWriter().Uint(1, 0) == nil {
		t.Error("a Writer of NewWriter is taken for a zero value")
	}
}

// The rule Nil objects, for the Reader of P3.2 and P3.3: nil and zero values return zero values and never fail.
func TestReaderNil(t *testing.T) {
	for _, r := range []*octets.Reader{nil, {}, new(octets.Reader)} {
		if r.Left() != 0 || r.Failed() || r.End() {
			t.Errorf("Left = %d, Failed = %t, End = %t", r.Left(), r.Failed(), r.End())
		}
		expectNothing(t, r, false)
	}
}
