package ecc_test

import (
	"math"
	"testing"

	"spacecraft/ecc"
)

const width = 39

// high are words without the bits of a code word.
var high = []uint64{
	1 << 39, 1 << 40, 1 << 41, 1 << 46, 1 << 47, 1 << 62, 1 << 63, 3 << 39, 3 << 62, 1<<39 | 1<<63, 0xFFFFFF8000000000, 0xA5A5A58000000000,
}

// oneBit are the code words of the data words of one bit, from the least significant one on.
var oneBit = []uint64{
	0xF, 0x33, 0x55, 0x96, 0x303, 0x505, 0x906, 0x1111, 0x2112, 0x4114, 0x8117,
	0x30003, 0x50005, 0x90006, 0x110011, 0x210012, 0x410014, 0x810017, 0x1010101, 0x2010102, 0x4010104, 0x8010107,
	0x10010110, 0x20010113, 0x40010115, 0x80010116,
	0x300000003, 0x500000005, 0x900000006, 0x1100000011, 0x2100000012, 0x4100000014,
}

// pairs are data words and their code words.
var pairs = []struct {
	data uint32
	code uint64
}{
	{0, 0}, {1, 0xF}, {2, 0x33}, {3, 0x3C}, {5, 0x5A}, {0x80000000, 0x4100000014}, {0x80000001, 0x410000001B},
	{0x12345678, 0x098D14CF93}, {0xDEADBEEF, 0x6FAB6EDCEF}, {0x55555555, 0x2B5555AA4D}, {0xAAAAAAAA, 0x55AAAA55A5},
	{0x0000FFFF, 0x00003FFFFC}, {0xFFFF0000, 0x7EFFC00014}, {0x7FFFFFFF, 0x3FFFFFFFFC}, {0xFFFFFFFF, 0x7EFFFFFFE8},
}

// pseudo returns numbers that follow no simple rule but are the same in every run.
func pseudo() func() uint64 {
	x := uint64(0x9E3779B97F4A7C15)
	return func() uint64 {
		x ^= x << 13
		x ^= x >> 7
		x ^= x << 17
		return x
	}
}

// dataWords returns the data words with no bit, with one, all but one, and all of the bits, those of pairs, and n others.
func dataWords(n int) []uint32 {
	words := []uint32{0, math.MaxUint32}
	for i := range 32 {
		words = append(words, 1<<i, ^(uint32(1) << i))
	}
	for _, p := range pairs {
		words = append(words, p.data)
	}
	for next := pseudo(); n > 0; n-- {
		words = append(words, uint32(next()>>16))
	}
	return words
}

// one tells whether the bit of w at a position is 1.
func one(w uint64, position int) bool { return w>>position%2 == 1 }

// isPower tells whether n is a power of two below 64.
func isPower(n int) bool {
	return n == 1 || n == 2 || n == 4 || n == 8 || n == 16 || n == 32
}

func literalSyndrome(w uint64) int {
	s := 0
	for position := 1; position <= 38; position++ {
		if one(w, position) {
			s ^= position
		}
	}
	return s
}

func literalParity(w uint64) int {
	p := 0
	for position := 0; position <= 38; position++ {
		if one(w, position) {
			p = 1 - p
		}
	}
	return p
}

// literalData returns the bits of w at the positions from 3 on that are no powers of two, in ascending order.
func literalData(w uint64) uint32 {
	var d uint32
	n := 0
	for position := 3; position <= 38; position++ {
		if isPower(position) {
			continue
		}
		if one(w, position) {
			d += 1 << n
		}
		n++
	}
	return d
}

// literalWord returns the word without bits from 39 on that has these data bits, syndrome and parity.
func literalWord(d uint32, syndrome, parity int) uint64 {
	var w uint64
	n := 0
	for position := 3; position <= 38; position++ {
		if isPower(position) {
			continue
		}
		if one(uint64(d), n) {
			w += 1 << position
		}
		n++
	}
	wrong := literalSyndrome(w) ^ syndrome
	for k := range 6 {
		if one(uint64(wrong), k) {
			w += 1 << (1 << k)
		}
	}
	if literalParity(w) != parity {
		w++
	}
	return w
}

// literalDecode returns the results of Repair and Decode, rule by rule.
func literalDecode(w uint64) (uint64, uint32, int) {
	if w >= 1<<39 {
		return w, 0, ecc.Bad
	}
	syndrome := literalSyndrome(w)
	if literalParity(w) == 0 {
		if syndrome == 0 {
			return w, literalData(w), ecc.Clean
		}
		return w, 0, ecc.Bad
	}
	if syndrome <= 38 {
		repaired := w ^ uint64(1)<<syndrome
		return repaired, literalData(repaired), ecc.Fixed
	}
	return w, 0, ecc.Bad
}

func expectEncode(t *testing.T, d uint32, want uint64) {
	t.Helper()
	if got := ecc.Encode(d); got != want {
		t.Fatalf("Encode(%X) = %X, want %X", d, got, want)
	}
}

func expectSyndrome(t *testing.T, w uint64, want int) {
	t.Helper()
	if got := ecc.Syndrome(w); got != want {
		t.Fatalf("Syndrome(%X) = %d, want %d", w, got, want)
	}
}

func expectDecode(t *testing.T, w uint64, data uint32, result int) {
	t.Helper()
	if gotData, gotResult := ecc.Decode(w); gotData != data || gotResult != result {
		t.Fatalf("Decode(%X) = %X, %d, want %X, %d", w, gotData, gotResult, data, result)
	}
}

func expectRepair(t *testing.T, w, code uint64, result int) {
	t.Helper()
	if gotCode, gotResult := ecc.Repair(w); gotCode != code || gotResult != result {
		t.Fatalf("Repair(%X) = %X, %d, want %X, %d", w, gotCode, gotResult, code, result)
	}
}

func expectFlip(t *testing.T, w uint64, bit int, want uint64) {
	t.Helper()
	if got := ecc.Flip(w, bit); got != want {
		t.Fatalf("Flip(%X, %d) = %X, want %X", w, bit, got, want)
	}
}

func expectBad(t *testing.T, w uint64) {
	t.Helper()
	expectDecode(t, w, 0, ecc.Bad)
	expectRepair(t, w, w, ecc.Bad)
}

// expectLiteral checks everything that P6.2 says of a word.
func expectLiteral(t *testing.T, w uint64) {
	t.Helper()
	code, data, result := literalDecode(w)
	expectSyndrome(t, w, literalSyndrome(w))
	expectDecode(t, w, data, result)
	expectRepair(t, w, code, result)
}

// P6.1, P6.2: the examples of the chapter and the constants.
func TestExamples(t *testing.T) {
	if ecc.Bits != 39 || ecc.Clean != 0 || ecc.Fixed != 1 || ecc.Bad != 2 {
		t.Fatalf("Bits, Clean, Fixed and Bad are %d, %d, %d and %d", ecc.Bits, ecc.Clean, ecc.Fixed, ecc.Bad)
	}
	expectEncode(t, 1, 0xF)
	expectEncode(t, 0, 0)
	expectDecode(t, 1, 0, ecc.Fixed)
	expectDecode(t, 2, 0, ecc.Fixed)
	expectDecode(t, 3, 0, ecc.Bad)
	expectDecode(t, 0xF, 1, ecc.Clean)
	expectDecode(t, 0x7, 1, ecc.Fixed)
	expectSyndrome(t, 0xA, 2)
}

// P6.1: code words that are written out.
func TestEncodeValues(t *testing.T) {
	for i, code := range oneBit {
		expectEncode(t, 1<<i, code)
	}
	for _, p := range pairs {
		expectEncode(t, p.data, p.code)
	}
}

// P6.1: the data bits stand at their positions, the syndrome and the parity are 0, and the data are read as they were.
func TestEncode(t *testing.T) {
	for _, d := range dataWords(20000) {
		code := ecc.Encode(d)
		if code >= 1<<39 || literalData(code) != d || literalSyndrome(code) != 0 || literalParity(code) != 0 {
			t.Fatalf("Encode(%X) = %X, which is no code word of these data", d, code)
		}
		expectEncode(t, d, literalWord(d, 0, 0))
		expectSyndrome(t, code, 0)
		expectDecode(t, code, d, ecc.Clean)
		expectRepair(t, code, code, ecc.Clean)
	}
}

// P6.1, P6.2: code words that are written out are Clean.
func TestDecodeValues(t *testing.T) {
	for _, p := range pairs {
		expectDecode(t, p.code, p.data, ecc.Clean)
		expectRepair(t, p.code, p.code, ecc.Clean)
		expectSyndrome(t, p.code, 0)
	}
	for i, code := range oneBit {
		expectDecode(t, code, 1<<i, ecc.Clean)
		expectRepair(t, code, code, ecc.Clean)
	}
}

// P6.2: words of one bit, and of all bits, written out.
func TestFewBits(t *testing.T) {
	for position := range width {
		w := uint64(1) << position
		expectSyndrome(t, w, position)
		expectDecode(t, w, 0, ecc.Fixed)
		expectRepair(t, w, 0, ecc.Fixed)
	}
	// All positions from 1 to 38 have the exclusive or 39: those from 1 to 35 cancel out, and 36, 37 and 38 remain.
	expectSyndrome(t, math.MaxUint64, 39)
	expectBad(t, math.MaxUint64)
	expectSyndrome(t, 1<<39-1, 39)
	expectBad(t, 1<<39-1)
	expectSyndrome(t, 1<<39-2, 39)
	expectBad(t, 1<<39-2)
}

// P6.2: words with a chosen syndrome, written out, with both parities.
func TestSyndromeValues(t *testing.T) {
	for _, c := range []struct {
		w        uint64
		syndrome int
		code     uint64
		data     uint32
		result   int
	}{
		{0, 0, 0, 0, ecc.Clean}, {1, 0, 0, 0, ecc.Fixed}, {0xE, 0, 0xF, 1, ecc.Fixed},
		{0x4000000000, 38, 0, 0, ecc.Fixed}, {0x4000000001, 38, 0x4000000001, 0, ecc.Bad},
		{0x100000014, 38, 0x4100000014, 0x80000000, ecc.Fixed}, {0x100000015, 38, 0x100000015, 0, ecc.Bad},
		{0x100000016, 39, 0x100000016, 0, ecc.Bad}, {0x100000017, 39, 0x100000017, 0, ecc.Bad},
		{0x100000101, 40, 0x100000101, 0, ecc.Bad}, {0x100000100, 40, 0x100000100, 0, ecc.Bad},
		{0x100010116, 63, 0x100010116, 0, ecc.Bad}, {0x100010117, 63, 0x100010117, 0, ecc.Bad},
		{3, 1, 3, 0, ecc.Bad}, {5, 2, 5, 0, ecc.Bad}, {6, 3, 6, 0, ecc.Bad}, {7, 3, 0xF, 1, ecc.Fixed},
		{0x100000001, 32, 0x100000001, 0, ecc.Bad}, {0x100000000, 32, 0, 0, ecc.Fixed},
	} {
		expectSyndrome(t, c.w, c.syndrome)
		expectDecode(t, c.w, c.data, c.result)
		expectRepair(t, c.w, c.code, c.result)
	}
}

// P6.2: every syndrome with each parity, for many data bits.
func TestSyndromes(t *testing.T) {
	for _, d := range dataWords(500) {
		for syndrome := range 64 {
			even, odd := literalWord(d, syndrome, 0), literalWord(d, syndrome, 1)
			expectSyndrome(t, even, syndrome)
			expectSyndrome(t, odd, syndrome)
			expectLiteral(t, even)
			expectLiteral(t, odd)
			if syndrome != 0 {
				expectBad(t, even)
			}
			if syndrome >= 39 {
				expectBad(t, odd)
			}
		}
		expectDecode(t, literalWord(d, 0, 1), d, ecc.Fixed)
		expectRepair(t, literalWord(d, 0, 1), literalWord(d, 0, 0), ecc.Fixed)
	}
}

// P6.2: bits from position 39 on are ignored by Syndrome and make every word Bad, also one that is Clean or Fixed without them.
func TestHighBits(t *testing.T) {
	for _, d := range dataWords(200) {
		for _, h := range high {
			for _, syndrome := range []int{0, 1, 32, 38, 39, 63} {
				for parity := range 2 {
					w := h | literalWord(d, syndrome, parity)
					expectSyndrome(t, w, syndrome)
					expectBad(t, w)
				}
			}
		}
		for position := width; position < 64; position++ {
			expectSyndrome(t, ecc.Encode(d)|1<<position, 0)
			expectBad(t, ecc.Encode(d)|1<<position)
		}
	}
}

// P6.2: words without a rule, with and without bits from position 39 on, and all words of few bits.
func TestAnyWord(t *testing.T) {
	next := pseudo()
	for range 50000 {
		w := next()
		expectLiteral(t, w)
		expectLiteral(t, w>>25)
		expectLiteral(t, w>>24)
		expectLiteral(t, w>>(next()%64))
	}
	for w := range uint64(1 << 16) {
		expectLiteral(t, w)
		expectLiteral(t, w<<23)
		expectLiteral(t, w<<24)
		expectLiteral(t, w<<48)
	}
}

// P6.3: positions that are written out, and positions that do not exist, some with a position as their low bits.
func TestFlipValues(t *testing.T) {
	expectFlip(t, 0, 0, 1)
	expectFlip(t, 1, 0, 0)
	expectFlip(t, 0, 3, 8)
	expectFlip(t, 0xF, 3, 7)
	expectFlip(t, 0, 38, 0x4000000000)
	expectFlip(t, 0x4000000000, 38, 0)
	expectFlip(t, math.MaxUint64, 38, 0xFFFFFFBFFFFFFFFF)
	expectFlip(t, math.MaxUint64, 0, 0xFFFFFFFFFFFFFFFE)
	for _, w := range []uint64{0, 1, 0xF, 1<<39 - 1, 1 << 39, 1 << 63, math.MaxUint64, 0x123456789ABCDEF0} {
		for _, bit := range []int{
			-1, -2, -38, -39, -63, -64, -256, 39, 40, 41, 62, 63, 64, 65, 102, 128, 256, 256 + 38, 65536,
			1 << 32, 1<<32 + 1, 1<<32 + 38, -1 << 32, -1<<32 + 5, 1 << 62,
			math.MaxInt, math.MaxInt - 1, math.MaxInt - 63, math.MinInt, math.MinInt + 1, math.MinInt + 38,
		} {
			expectFlip(t, w, bit, w)
		}
	}
}

// P6.3: Flip inverts the bit at the position and no other, and undoes itself.
func TestFlip(t *testing.T) {
	next := pseudo()
	words := []uint64{0, 1, 0xF, 1<<39 - 1, 1 << 39, math.MaxUint64, ^uint64(1<<39 - 1)}
	for range 200 {
		w := next()
		words = append(words, w, w>>25)
	}
	for _, w := range words {
		for bit := -70; bit < 140; bit++ {
			flipped := ecc.Flip(w, bit)
			for position := range 64 {
				inverted := position == bit && position <= 38
				if (one(w, position) != one(flipped, position)) != inverted {
					t.Fatalf("Flip(%X, %d) = %X", w, bit, flipped)
				}
			}
			expectFlip(t, flipped, bit, w)
		}
	}
}

// P6.4: one wrong bit, at every position.
func TestOneWrongBit(t *testing.T) {
	for _, d := range dataWords(2000) {
		code := ecc.Encode(d)
		for position := range width {
			expectDecode(t, code^1<<position, d, ecc.Fixed)
			expectRepair(t, code^1<<position, code, ecc.Fixed)
			expectSyndrome(t, ecc.Flip(code, position), position)
			expectDecode(t, ecc.Flip(code, position), d, ecc.Fixed)
		}
	}
}

// P6.4: two wrong bits, at every pair of positions.
func TestTwoWrongBits(t *testing.T) {
	for _, d := range dataWords(300) {
		code := ecc.Encode(d)
		for second := range width {
			for first := range second {
				expectBad(t, code^1<<first^1<<second)
				expectBad(t, ecc.Flip(ecc.Flip(code, first), second))
			}
		}
	}
}

// expectApart checks what P6.5 and P6.6 say of two data words.
func expectApart(t *testing.T, a, b uint32) {
	t.Helper()
	codeA, codeB := ecc.Encode(a), ecc.Encode(b)
	expectEncode(t, a^b, codeA^codeB)
	distance := 0
	for position := range 64 {
		if one(codeA, position) != one(codeB, position) {
			distance++
		}
	}
	if a != b && distance < 4 || a == b && distance != 0 {
		t.Fatalf("the code words of %X and %X differ in %d bits", a, b, distance)
	}
}

// P6.5, P6.6: data words without a rule, and those that differ in one, two or three bits.
func TestPairs(t *testing.T) {
	words := dataWords(300)
	for _, a := range words {
		for _, b := range words {
			expectApart(t, a, b)
		}
	}
	for _, d := range dataWords(10) {
		for third := range 32 {
			for second := range third + 1 {
				for first := range second + 1 {
					expectApart(t, d, d^(1<<first|1<<second|1<<third))
				}
			}
		}
	}
}
