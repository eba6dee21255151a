package filesum_test

import (
	"bytes"
	"math"
	"math/big"
	"slices"
	"testing"

	"spacecraft/filesum"
)

const (
	least    = math.MinInt
	greatest = math.MaxInt
	// file is the greatest number of bytes of a file.
	file = 65536
)

// pseudo returns numbers that follow no simple rule but are the same in every run.
func pseudo(seed uint64) func(n int) int {
	x := seed*0x9E3779B97F4A7C15 + 1
	return func(n int) int {
		x ^= x << 13
		x ^= x >> 7
		x ^= x << 17
		return int(x>>20) % n
	}
}

// random returns size bytes that next chooses.
func random(next func(n int) int, size int) []byte {
	b := make([]byte, size)
	for i := range b {
		b[i] = byte(next(256))
	}
	return b
}

// counting returns size bytes none of which is 0 or equal to one of the seven before it.
func counting(size int) []byte {
	b := make([]byte, size)
	for i := range b {
		b[i] = byte(i*29%251 + 1)
	}
	return b
}

// modulus is 2^32.
func modulus() *big.Int { return new(big.Int).Lsh(big.NewInt(1), 32) }

// modelPiece is P25.2 word for word, in numbers of any size: no offset runs over, and the sum is
// reduced only at its end.
func modelPiece(offset int, b []byte) uint32 {
	if offset < 0 {
		return 0
	}
	sum, four := new(big.Int), big.NewInt(4)
	for i, x := range b {
		at := new(big.Int).Add(big.NewInt(int64(offset)), big.NewInt(int64(i)))
		k := at.Mod(at, four).Int64()
		power := new(big.Int).Exp(big.NewInt(2), big.NewInt(8*(3-k)), nil)
		sum.Add(sum, power.Mul(power, big.NewInt(int64(x))))
	}
	return uint32(sum.Mod(sum, modulus()).Uint64())
}

// modelSum is P25.1 word for word: the file is padded and cut into words, and these are added.
func modelSum(b []byte) uint32 {
	padded := bytes.Clone(b)
	for len(padded)%4 != 0 {
		padded = append(padded, 0)
	}
	sum := new(big.Int)
	for w := range slices.Chunk(padded, 4) {
		sum.Add(sum, new(big.Int).SetBytes(w))
	}
	return uint32(sum.Mod(sum, modulus()).Uint64())
}

func expectSum(t *testing.T, b []byte, want uint32) {
	t.Helper()
	if got := filesum.Sum(b); got != want {
		t.Errorf("Sum of %d bytes that begin with %X = %08X, want %08X", len(b), b[:min(len(b), 16)], got, want)
	}
}

func expectPiece(t *testing.T, offset int, b []byte, want uint32) {
	t.Helper()
	if got := filesum.Piece(offset, b); got != want {
		t.Errorf("Piece(%d, %d bytes that begin with %X) = %08X, want %08X", offset, len(b), b[:min(len(b), 16)], got, want)
	}
}

// A piece of a file: its bytes and where they stand.
type piece struct {
	offset int
	data   []byte
}

// cut divides b at the given places, which ascend but may be equal.
func cut(b []byte, places ...int) []piece {
	var pieces []piece
	from := 0
	for _, to := range append(slices.Clone(places), len(b)) {
		pieces = append(pieces, piece{from, b[from:to]})
		from = to
	}
	return pieces
}

// total adds the contributions of the pieces, in their order.
func total(pieces []piece) uint32 {
	var sum uint32
	for _, p := range pieces {
		sum += filesum.Piece(p.offset, p.data)
	}
	return sum
}

// shuffle puts the pieces into an order that next chooses.
func shuffle(next func(n int) int, pieces []piece) {
	for i := len(pieces) - 1; i > 0; i-- {
		j := next(i + 1)
		pieces[i], pieces[j] = pieces[j], pieces[i]
	}
}

// orders calls do with the pieces in every order.
func orders(pieces []piece, do func(ordered []piece)) {
	var extend func(taken, left []piece)
	extend = func(taken, left []piece) {
		if len(left) == 0 {
			do(taken)
		}
		for i := range left {
			extend(append(slices.Clone(taken), left[i]), slices.Concat(left[:i], left[i+1:]))
		}
	}
	extend(nil, pieces)
}

// P25.1, P25.2: the examples of the chapter, and the one of the whole document (P25.3).
func TestExamples(t *testing.T) {
	expectSum(t, []byte("ABCD"), 0x41424344)
	expectSum(t, []byte("ABCDE"), 0x86424344)
	expectPiece(t, 2, []byte("CD"), 0x4344)
	expectPiece(t, 3, []byte("DE"), 0x45000044)
	sum := filesum.Sum([]byte("ABCD"))
	ab, cd := filesum.Piece(0, []byte("AB")), filesum.Piece(2, []byte("CD"))
	if ab != 0x41420000 || cd != 0x4344 || ab+cd != sum || cd+ab != sum {
		t.Errorf("AB contributes %08X and CD %08X, the sum is %08X", ab, cd, sum)
	}
}

// P25.1: sums that are written out by hand.
func TestSumValues(t *testing.T) {
	for _, c := range []struct {
		in   []byte
		want uint32
	}{
		{nil, 0},
		{[]byte{}, 0},
		{[]byte{0}, 0},
		{[]byte{0, 0, 0, 0, 0}, 0},
		{[]byte{0x12}, 0x12000000},
		{[]byte{0xFF}, 0xFF000000},
		{[]byte{0x12, 0x34}, 0x12340000},
		{[]byte{0x12, 0x34, 0x56}, 0x12345600},
		{[]byte{0x12, 0x34, 0x56, 0x78}, 0x12345678},
		{[]byte{0, 0, 0, 1}, 1},
		{[]byte{0x12, 0x34, 0x56, 0x78, 0x01}, 0x13345678},
		{[]byte{0x12, 0x34, 0x56, 0x78, 0x9A}, 0xAC345678},
		{[]byte{0x12, 0x34, 0x56, 0x78, 0x9A, 0xBC}, 0xACF05678},
		{[]byte{0x12, 0x34, 0x56, 0x78, 0x9A, 0xBC, 0xDE}, 0xACF13478},
		{[]byte{0x12, 0x34, 0x56, 0x78, 0x9A, 0xBC, 0xDE, 0xF0}, 0xACF13568},
		{[]byte{0x12, 0x34, 0x56, 0x78, 0x9A, 0xBC, 0xDE, 0xF0, 0x01}, 0xADF13568},
		{[]byte{1, 2, 3, 4, 5, 6, 7, 8, 9, 10, 11, 12}, 0x0F121518},
		{[]byte{0, 0, 0, 0xFF, 0, 0, 0, 1}, 0x100},
		{[]byte{0, 0, 0xFF, 0xFF, 0, 0, 0, 1}, 0x10000},
		{[]byte{0, 0xFF, 0xFF, 0xFF, 0, 0, 0, 1}, 0x1000000},
	} {
		expectSum(t, c.in, c.want)
	}
}

// P25.1: the bytes of a long file are added as those of a short one are.
func TestSumOfManyBytes(t *testing.T) {
	expectSum(t, bytes.Repeat([]byte{0, 0, 0, 1}, 1000), 1000)
	expectSum(t, bytes.Repeat([]byte{0, 1, 0, 0}, 1000), 1000<<16)
	expectSum(t, bytes.Repeat([]byte{1}, 4003), 0xECECECE8) // 1001 of the first three places, 1000 of the fourth
	for _, size := range []int{255, 256, 257, 511, 512, 1023, 4096, file - 1, file, file + 1} {
		b := counting(size)
		expectSum(t, b, modelSum(b))
	}
}

// P25.1: sums that run over 2^32, once and many times.
func TestSumRunsOver(t *testing.T) {
	expectSum(t, []byte{0x80, 0, 0, 0, 0x80, 0, 0, 1}, 1)
	expectSum(t, []byte{0xFF, 0xFF, 0xFF, 0xFF, 0, 0, 0, 2}, 1)
	expectSum(t, []byte{0xFF, 0xFF, 0xFF, 0xFF, 0xFF, 0xFF, 0xFF, 0xFF}, 0xFFFFFFFE)
	expectSum(t, []byte{0xFF, 0xFF, 0xFF, 0xFF, 0xFF}, 0xFEFFFFFF)
	full := bytes.Repeat([]byte{0xFF}, 16*file)
	for _, words := range []int{1, 2, 3, 255, 256, 257, 16383, 16384, 16385, 65535, 65536, 262143, 262144} {
		expectSum(t, full[:4*words], -uint32(words))
		expectSum(t, full[:4*words-1], -uint32(words)-0xFF)
		expectSum(t, full[:4*words-2], -uint32(words)-0xFFFF)
		expectSum(t, full[:4*words-3], -uint32(words)-0xFFFFFF)
	}
}

// P25.1: a sum may be 0 though the bytes are not.
func TestSumOfZero(t *testing.T) {
	for _, b := range [][]byte{
		{0x80, 0, 0, 0, 0x80},
		{0x80, 0, 0, 0, 0x80, 0, 0, 0},
		{0xFF, 0xFF, 0xFF, 0xFF, 0, 0, 0, 1},
		{0, 0, 0, 1, 0xFF, 0xFF, 0xFF, 0xFF},
		{0x40, 0, 0, 0, 0x40, 0, 0, 0, 0x80},
		{0x12, 0x34, 0x56, 0x78, 0xED, 0xCB, 0xA9, 0x88},
		bytes.Repeat([]byte{1, 0, 0, 0}, 256),
		bytes.Repeat([]byte{0, 1, 0, 0}, 65536),
	} {
		expectSum(t, b, 0)
		expectPiece(t, 0, b, 0)
	}
}

// P25.1, P25.2: a byte counts by its place in its word, wherever the word is in the file.
func TestPlaces(t *testing.T) {
	weights := []uint32{0x1000000, 0x10000, 0x100, 1}
	for _, x := range []byte{0, 1, 0x7F, 0x80, 0xFF} {
		for at := range 36 {
			want := uint32(x) * weights[at%4]
			expectPiece(t, at, []byte{x}, want)
			for _, size := range []int{at + 1, at + 2, at + 3, at + 4, 36} {
				b := make([]byte, size)
				b[at] = x
				expectSum(t, b, want)
				expectPiece(t, 0, b, want)
				expectPiece(t, 1, b[1:], want-weights[0]*uint32(b[0]))
			}
		}
	}
	for _, x := range []byte{0, 1, 0x7F, 0x80, 0xFF} {
		for at := file - 8; at < file; at++ {
			b := make([]byte, file)
			b[at] = x
			expectSum(t, b, uint32(x)*weights[at%4])
		}
	}
}

// P25.2: contributions that are written out by hand, at each remainder modulo 4.
func TestPieceValues(t *testing.T) {
	b := []byte{0x12, 0x34, 0x56, 0x78, 0x9A, 0xBC, 0xDE, 0xF0, 0x01}
	// The row r lists the contributions of the first 0, 1, 2 .. bytes of b where a place r of a word is the first.
	rows := [][]uint32{
		{0, 0x12000000, 0x12340000, 0x12345600, 0x12345678, 0xAC345678, 0xACF05678, 0xACF13478, 0xACF13568, 0xADF13568},
		{0, 0x00120000, 0x00123400, 0x00123456, 0x78123456, 0x78AC3456, 0x78ACF056, 0x78ACF134, 0x68ACF134, 0x68ADF134},
		{0, 0x00001200, 0x00001234, 0x56001234, 0x56781234, 0x5678AC34, 0x5678ACF0, 0x3478ACF0, 0x3568ACF0, 0x3568ADF0},
		{0, 0x00000012, 0x34000012, 0x34560012, 0x34567812, 0x345678AC, 0xF05678AC, 0xF13478AC, 0xF13568AC, 0xF13568AD},
	}
	offsets := []int{0, 1, 2, 3, 4, 5, 6, 7, 8, 9, 10, 11, 509, 510, 511, 512, file - 1, file, file + 1, file + 2,
		math.MaxInt32 - 1, math.MaxInt32, math.MaxInt32 + 1, math.MaxUint32, math.MaxUint32 + 1,
		greatest - 12, greatest - 11, greatest - 10, greatest - 9, greatest - 8, greatest - 7, greatest - 6,
		greatest - 5, greatest - 4, greatest - 3, greatest - 2, greatest - 1, greatest}
	for _, offset := range offsets {
		for size, want := range rows[offset%4] {
			expectPiece(t, offset, b[:size], want)
		}
		expectPiece(t, offset, nil, 0)
		expectPiece(t, offset, []byte{}, 0)
	}
}

// P25.2: there is no contribution at a negative offset.
func TestNegativeOffset(t *testing.T) {
	offsets := []int{-1, -2, -3, -4, -5, -6, -7, -8, -9, -511, -512, -file, math.MinInt32, math.MinInt32 - 1,
		least + 5, least + 4, least + 3, least + 2, least + 1, least}
	for _, offset := range offsets {
		for _, b := range [][]byte{nil, {}, {1}, {0, 1}, {1, 2, 3, 4}, {1, 2, 3, 4, 5, 6, 7, 8, 9}, counting(1000)} {
			expectPiece(t, offset, b, 0)
		}
	}
}

// P25.2: pieces of all small and of some great sizes, also where they reach beyond the greatest int.
func TestPieceSizes(t *testing.T) {
	for _, size := range []int{0, 1, 2, 3, 4, 5, 6, 7, 8, 9, 15, 16, 17, 511, 512, 513, 4096, file} {
		b := counting(size)
		for remainder := range 4 {
			expectPiece(t, remainder, b, modelPiece(remainder, b))
			expectPiece(t, greatest-remainder, b, modelPiece(greatest-remainder, b))
			expectPiece(t, greatest-size-remainder, b, modelPiece(greatest-size-remainder, b))
		}
	}
	full := bytes.Repeat([]byte{0xFF}, 4*file+3)
	for back := range 9 {
		expectPiece(t, greatest-back, full, modelPiece(greatest-back, full))
	}
}

// P25.1, P25.3: the contribution of a whole file is its sum.
func TestWholeFile(t *testing.T) {
	next := pseudo(1)
	for size := range 300 {
		b := random(next, size)
		want := modelSum(b)
		expectSum(t, b, want)
		expectPiece(t, 0, b, want)
	}
}

// P25.3: a file that is cut into two or three pieces, in every order; empty pieces are among them.
func TestCuts(t *testing.T) {
	next := pseudo(2)
	for size := range 14 {
		for _, b := range [][]byte{counting(size), random(next, size), bytes.Repeat([]byte{0xFF}, size)} {
			want := filesum.Sum(b)
			check := func(ordered []piece) {
				if got := total(ordered); got != want {
					t.Errorf("%X in the pieces %v adds up to %08X, want %08X", b, ordered, got, want)
				}
			}
			for i := range size + 1 {
				orders(cut(b, i), check)
				for j := i; j <= size; j++ {
					orders(cut(b, i, j), check)
				}
			}
		}
	}
}

// P25.3: a few pieces in every order, with empty ones between them.
func TestOrders(t *testing.T) {
	b := counting(23)
	want := modelSum(b)
	count := 0
	orders(cut(b, 3, 3, 10, 16, 17), func(ordered []piece) {
		count++
		if got := total(ordered); got != want {
			t.Errorf("the pieces %v add up to %08X, want %08X", ordered, got, want)
		}
	})
	if count != 720 {
		t.Errorf("%d orders of 6 pieces", count)
	}
}

// P25.3: pieces of one byte, forwards, backwards, and in orders without a rule.
func TestSingleBytes(t *testing.T) {
	next := pseudo(3)
	for _, size := range []int{1, 2, 3, 4, 5, 6, 7, 8, 9, 31, 32, 33, 1000} {
		b := random(next, size)
		var pieces []piece
		for i := range b {
			pieces = append(pieces, piece{i, b[i : i+1]}, piece{i, nil}, piece{i + 1, []byte{}})
		}
		want := modelSum(b)
		for turn := range 10 {
			if got := total(pieces); got != want {
				t.Errorf("%d bytes in the order %d add up to %08X, want %08X", size, turn, got, want)
			}
			if turn == 0 {
				slices.Reverse(pieces)
			} else {
				shuffle(next, pieces)
			}
		}
	}
}

// P25.1, P25.2, P25.3: files, cuts and orders without a rule.
func TestRandomFiles(t *testing.T) {
	next := pseudo(4)
	for range 3000 {
		b := random(next, next(200))
		places := make([]int, next(12))
		for i := range places {
			places[i] = next(len(b) + 1)
		}
		slices.Sort(places)
		pieces := cut(b, places...)
		shuffle(next, pieces)
		want := modelSum(b)
		expectSum(t, b, want)
		for _, p := range pieces {
			expectPiece(t, p.offset, p.data, modelPiece(p.offset, p.data))
		}
		if got := total(pieces); got != want {
			t.Fatalf("%X in the pieces %v adds up to %08X, want %08X", b, pieces, got, want)
		}
	}
}

// P25.2: pieces at offsets of every size, also at negative ones.
func TestRandomOffsets(t *testing.T) {
	next := pseudo(5)
	for range 5000 {
		offset := next(greatest) >> next(63)
		switch next(4) {
		case 0:
			offset = greatest - offset
		case 1:
			offset = -offset
		}
		b := random(next, next(40))
		expectPiece(t, offset, b, modelPiece(offset, b))
	}
}

// P25.3: a piece contributes the same four bytes further on, and not always the same one, two or three bytes further on.
func TestOffsetByFour(t *testing.T) {
	for size := 1; size < 20; size++ {
		b := counting(size)
		for _, offset := range []int{0, 1, 2, 3, 4, 5, 6, 7, 508, 509, 510, 511, file, greatest - 11, greatest - 10, greatest - 9,
			greatest - 8, greatest - 7, greatest - 6, greatest - 5, greatest - 4} {
			want := filesum.Piece(offset, b)
			expectPiece(t, offset+4, b, want)
			for step := 1; step < 4; step++ {
				if filesum.Piece(offset+step, b[:1]) == filesum.Piece(offset, b[:1]) {
					t.Errorf("%X contributes the same at %d and at %d", b[:1], offset, offset+step)
				}
			}
		}
	}
	same := []byte{7, 7, 7, 7}
	for offset := range 4 {
		expectPiece(t, offset, same, 0x07070707)
	}
	for _, offset := range []int{-4, -3, -2, -1} {
		expectPiece(t, offset, same, 0)
	}
}

// P25.1, P25.3: zero bytes at the end change nothing, but at the beginning they do.
func TestZeroBytes(t *testing.T) {
	next := pseudo(6)
	for size := range 20 {
		b := random(next, size)
		for offset := range 8 {
			for _, at := range []int{offset, offset + file, greatest - offset} {
				want := filesum.Piece(at, b)
				longer := bytes.Clone(b)
				for range 9 {
					longer = append(longer, 0)
					expectPiece(t, at, longer, want)
				}
				expectPiece(t, at, append(longer, make([]byte, 4096)...), want)
			}
		}
		want := filesum.Sum(b)
		longer := bytes.Clone(b)
		for range 9 {
			longer = append(longer, 0)
			expectSum(t, longer, want)
		}
	}
	expectSum(t, []byte{0, 1}, 0x10000)
	expectSum(t, []byte{0, 0, 0, 0, 1}, 0x1000000)
}

// P25.1: a single changed byte changes the sum, because it adds less than 2^32 to it, but not 0.
func TestChangedByte(t *testing.T) {
	for _, size := range []int{1, 2, 3, 4, 5, 8, 13} {
		b := counting(size)
		want := filesum.Sum(b)
		for at := range b {
			for change := 1; change < 256; change++ {
				changed := bytes.Clone(b)
				changed[at] ^= byte(change)
				if filesum.Sum(changed) == want {
					t.Errorf("%X and %X have the same sum", b, changed)
				}
				expectSum(t, changed, modelSum(changed))
			}
		}
	}
}

// The rules Memory and Termination: the argument, and what lies behind it, stay as they are, and nothing keeps it.
func TestMemory(t *testing.T) {
	whole := counting(64)
	before := bytes.Clone(whole)
	for from := range 9 {
		for to := from; to < 30; to++ {
			sum, part := filesum.Sum(whole[from:to]), filesum.Piece(from, whole[from:to])
			if !bytes.Equal(whole, before) {
				t.Fatalf("the bytes %d to %d have changed", from, to)
			}
			expectSum(t, bytes.Clone(before[from:to]), sum)
			expectPiece(t, from, bytes.Clone(before[from:to]), part)
		}
	}
	clear(whole)
	expectSum(t, before, modelSum(before))
	expectSum(t, whole, 0)
	expectPiece(t, 3, whole, 0)
}

// The rule Determinism: a call returns the same, whatever calls came before it.
func TestSameCalls(t *testing.T) {
	var first []uint32
	for turn := range 3 {
		next := pseudo(7)
		for i := range 500 {
			b := random(next, next(50))
			offset := next(2000) - 500
			sum, part := filesum.Sum(b), filesum.Piece(offset, b)
			if turn == 0 {
				first = append(first, sum, part)
			} else if first[2*i] != sum || first[2*i+1] != part {
				t.Fatalf("the call %d differs in the turn %d", i, turn)
			}
		}
	}
}
