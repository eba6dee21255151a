package serial_test

import (
	"math"
	"math/big"
	"slices"
	"testing"

	"spacecraft/serial"
)

// invalidBits are widths of which no number is Valid. Some of them have a valid width as their low bits.
var invalidBits = []int{
	0, 33, -1, 34, 40, 62, 63, 64, 65, 72, 96, 128, 256 + 8, -8, -31, -32, -33, -56, -64,
	1 << 32, 1<<32 + 8, -1<<32 + 8, math.MaxInt - 1, math.MaxInt, math.MinInt, math.MinInt + 1, math.MinInt + 8,
}

// extremes are ints of any kind, for parameters of which the promises name no bound.
var extremes = []int{
	0, 1, -1, 2, -2, 5, -5, 127, 128, -128, -129, 255, 256, 257, -255, -256, -257, 65535, 65536, -65536,
	1<<31 - 1, 1 << 31, 1<<31 + 1, -1 << 31, -1<<31 - 1, 1<<32 - 1, 1 << 32, 1<<32 + 1, -1 << 32, -1<<32 - 1, 1<<33 + 7,
	1 << 62, 1<<62 - 1, -1 << 62, -1<<62 - 1,
	math.MaxInt, math.MaxInt - 1, math.MaxInt - 255, math.MaxInt - 1<<32, math.MinInt, math.MinInt + 1, math.MinInt + 255, math.MinInt + 1<<32,
}

// pseudo returns numbers that follow no simple rule but are the same in every run.
func pseudo() func() uint64 {
	x := uint64(0x9E3779B97F4A7C15)
	return func() uint64 {
		x ^= x << 13
		x ^= x >> 7
		x ^= x << 17
		return x
	}
}

// power is 2 to the given exponent.
func power(exponent int) int {
	n := 1
	for range exponent {
		n *= 2
	}
	return n
}

// congruent returns the number from 0 to 2^bits - 1 that is congruent to a + sign * b, which may be beyond all ints.
func congruent(a, sign, b, bits int) int {
	sum := new(big.Int).Mul(big.NewInt(int64(sign)), big.NewInt(int64(b)))
	sum.Add(sum, big.NewInt(int64(a)))
	return int(sum.Mod(sum, big.NewInt(int64(power(bits)))).Int64())
}

// edges returns the Valid numbers of a width at which something changes, and some others.
func edges(bits int) []int {
	size := power(bits)
	b := []int{0, 1, 2, 3, 7, size / 3, size/2 - 2, size/2 - 1, size / 2, size/2 + 1, size - 3, size - 2, size - 1}
	b = slices.DeleteFunc(b, func(n int) bool { return n < 0 || n >= size })
	slices.Sort(b)
	return slices.Compact(b)
}

// invalidNumbers returns numbers that are not Valid for a valid width. Most of them have a Valid number as their low bits.
func invalidNumbers(bits int) []int {
	size := power(bits)
	return []int{
		size, -1, size + 1, -2, 2*size - 1, 2 * size, 2*size + 1, -size + 1, -size, -size - 1, 3 * size,
		1 << 32, 1<<32 + 1, 1 << 62, -1 << 32, math.MaxInt, math.MaxInt - 1, math.MinInt, math.MinInt + 1,
	}
}

func expectValid(t *testing.T, n, bits int, want bool) {
	t.Helper()
	if got := serial.Valid(n, bits); got != want {
		t.Fatalf("Valid(%d, %d) = %t, want %t", n, bits, got, want)
	}
}

func expectAdd(t *testing.T, a, n, bits, want int) {
	t.Helper()
	if got := serial.Add(a, n, bits); got != want {
		t.Fatalf("Add(%d, %d, %d) = %d, want %d", a, n, bits, got, want)
	}
}

func expectDistance(t *testing.T, a, b, bits, want int) {
	t.Helper()
	if got := serial.Distance(a, b, bits); got != want {
		t.Fatalf("Distance(%d, %d, %d) = %d, want %d", a, b, bits, got, want)
	}
}

func expectBefore(t *testing.T, a, b, bits int, want bool) {
	t.Helper()
	if got := serial.Before(a, b, bits); got != want {
		t.Fatalf("Before(%d, %d, %d) = %t, want %t", a, b, bits, got, want)
	}
}

func expectWithin(t *testing.T, n, first, size, bits int, want bool) {
	t.Helper()
	if got := serial.Within(n, first, size, bits); got != want {
		t.Fatalf("Within(%d, %d, %d, %d) = %t, want %t", n, first, size, bits, got, want)
	}
}

// P4.1, P4.2, P4.3: the examples of the chapter.
func TestExamples(t *testing.T) {
	expectAdd(t, 250, 10, 8, 4)
	expectAdd(t, 3, -5, 8, 254)
	expectDistance(t, 250, 4, 8, 10)
	expectBefore(t, 250, 4, 8, true)
	expectBefore(t, 4, 250, 8, false)
	expectBefore(t, 0, 128, 8, false)
	expectWithin(t, 2, 254, 5, 8, true)
	expectWithin(t, 3, 254, 5, 8, false)
}

// P4.1: the bounds of the numbers, for the widths whose bounds are written out.
func TestValidValues(t *testing.T) {
	for _, c := range []struct{ bits, last int }{
		{1, 1}, {2, 3}, {8, 255}, {14, 16383}, {16, 65535}, {31, 2147483647}, {32, 4294967295},
	} {
		expectValid(t, 0, c.bits, true)
		expectValid(t, c.last, c.bits, true)
		expectValid(t, c.last+1, c.bits, false)
		expectValid(t, -1, c.bits, false)
	}
}

// P4.1: every width, with all numbers of the narrow ones.
func TestValid(t *testing.T) {
	for bits := 1; bits <= 32; bits++ {
		for _, n := range edges(bits) {
			expectValid(t, n, bits, true)
		}
		for _, n := range invalidNumbers(bits) {
			expectValid(t, n, bits, n >= 0 && n < power(bits))
		}
		for _, n := range extremes {
			expectValid(t, n, bits, n >= 0 && n < power(bits))
		}
	}
	for bits := 1; bits <= 10; bits++ {
		for n := -3000; n <= 3000; n++ {
			expectValid(t, n, bits, n >= 0 && n < power(bits))
		}
	}
}

// P4.1: no number is Valid for a width that is not from 1 to 32.
func TestValidInvalidBits(t *testing.T) {
	for _, bits := range invalidBits {
		for _, n := range extremes {
			expectValid(t, n, bits, false)
		}
	}
	for bits := -200; bits <= 0; bits++ {
		expectValid(t, 0, bits, false)
		expectValid(t, 0, 33-bits, false)
	}
}

// P4.1: sums that are written out, with those that are not ints.
func TestAddValues(t *testing.T) {
	for _, c := range []struct{ a, n, bits, want int }{
		{0, 0, 1, 0}, {1, 0, 1, 1}, {0, 1, 1, 1}, {1, 1, 1, 0}, {0, -1, 1, 1}, {1, -2, 1, 1},
		{0, math.MaxInt, 1, 1}, {1, math.MaxInt, 1, 0}, {0, math.MinInt, 1, 0}, {1, math.MinInt, 1, 1},
		{255, 1, 8, 0}, {255, 255, 8, 254}, {0, -1, 8, 255}, {0, -256, 8, 0}, {0, -257, 8, 255}, {7, 512, 8, 7},
		{0, math.MaxInt, 8, 255}, {1, math.MaxInt, 8, 0}, {255, math.MaxInt, 8, 254}, {255, math.MinInt, 8, 255},
		{1<<32 - 1, 1, 32, 0}, {0, -1, 32, 1<<32 - 1}, {5, 1 << 32, 32, 5}, {5, -1 << 32, 32, 5}, {5, 1<<33 + 3, 32, 8},
		{0, math.MaxInt, 32, 1<<32 - 1}, {1, math.MaxInt, 32, 0}, {1<<32 - 1, math.MaxInt, 32, 1<<32 - 2},
		{0, math.MinInt, 32, 0}, {1<<32 - 1, math.MinInt, 32, 1<<32 - 1}, {0, math.MinInt + 1, 32, 1},
	} {
		expectAdd(t, c.a, c.n, c.bits, c.want)
	}
}

// P4.1: the definition, for every width, and for any n.
func TestAdd(t *testing.T) {
	next := pseudo()
	for bits := 1; bits <= 32; bits++ {
		for _, a := range edges(bits) {
			for _, n := range slices.Concat(extremes, edges(bits), invalidNumbers(bits)) {
				expectAdd(t, a, n, bits, congruent(a, 1, n, bits))
			}
		}
		for range 500 {
			a, n := int(next()%uint64(power(bits))), int(next())>>(next()%64)
			expectAdd(t, a, n, bits, congruent(a, 1, n, bits))
		}
	}
	for bits := 1; bits <= 5; bits++ {
		for a := range power(bits) {
			for n := -100; n <= 100; n++ {
				expectAdd(t, a, n, bits, congruent(a, 1, n, bits))
			}
		}
	}
}

// P4.1: Add returns 0 if the first number is not Valid, whatever is added.
func TestAddInvalid(t *testing.T) {
	for _, n := range extremes {
		for bits := 1; bits <= 32; bits++ {
			for _, a := range invalidNumbers(bits) {
				if a < 0 || a >= power(bits) {
					expectAdd(t, a, n, bits, 0)
				}
			}
		}
		for _, bits := range invalidBits {
			for _, a := range extremes {
				expectAdd(t, a, n, bits, 0)
			}
		}
	}
}

// P4.2: distances and orders that are written out.
func TestDistanceValues(t *testing.T) {
	for _, c := range []struct {
		a, b, bits, distance int
		before               bool
	}{
		{0, 0, 1, 0, false}, {0, 1, 1, 1, false}, {1, 0, 1, 1, false}, {1, 1, 1, 0, false},
		{0, 1, 2, 1, true}, {0, 2, 2, 2, false}, {0, 3, 2, 3, false}, {3, 0, 2, 1, true}, {2, 0, 2, 2, false},
		{7, 7, 8, 0, false}, {7, 8, 8, 1, true}, {8, 7, 8, 255, false}, {255, 0, 8, 1, true}, {0, 255, 8, 255, false},
		{0, 127, 8, 127, true}, {0, 128, 8, 128, false}, {0, 129, 8, 129, false}, {128, 0, 8, 128, false},
		{200, 71, 8, 127, true}, {200, 72, 8, 128, false}, {200, 73, 8, 129, false}, {129, 0, 8, 127, true},
		{0, 1<<32 - 1, 32, 1<<32 - 1, false}, {1<<32 - 1, 0, 32, 1, true}, {1<<32 - 1, 1<<32 - 1, 32, 0, false},
		{0, 1<<31 - 1, 32, 1<<31 - 1, true}, {0, 1 << 31, 32, 1 << 31, false}, {0, 1<<31 + 1, 32, 1<<31 + 1, false},
		{1<<32 - 1, 1<<31 - 2, 32, 1<<31 - 1, true}, {1<<32 - 1, 1<<31 - 1, 32, 1 << 31, false},
	} {
		expectDistance(t, c.a, c.b, c.bits, c.distance)
		expectBefore(t, c.a, c.b, c.bits, c.before)
	}
}

// expectOrder checks Distance and Before of two Valid numbers against their definitions.
func expectOrder(t *testing.T, a, b, bits int) {
	t.Helper()
	d := congruent(b, -1, a, bits)
	expectDistance(t, a, b, bits, d)
	expectBefore(t, a, b, bits, d >= 1 && d <= power(bits-1)-1)
}

// P4.2: the definitions, for every width, with the distances at which something changes.
func TestDistance(t *testing.T) {
	next := pseudo()
	for bits := 1; bits <= 32; bits++ {
		for _, a := range edges(bits) {
			for _, b := range edges(bits) {
				expectOrder(t, a, b, bits)
			}
			for _, d := range []int{0, 1, power(bits-1) - 1, power(bits - 1), power(bits-1) + 1, power(bits) - 1} {
				expectOrder(t, a, (a+d)%power(bits), bits)
			}
		}
		for range 500 {
			expectOrder(t, int(next()%uint64(power(bits))), int(next()%uint64(power(bits))), bits)
		}
	}
	for bits := 1; bits <= 7; bits++ {
		for a := range power(bits) {
			for b := range power(bits) {
				expectOrder(t, a, b, bits)
			}
		}
	}
}

// P4.2: a number that is not Valid has the distance 0 and no place in the order, on either side.
func TestDistanceInvalid(t *testing.T) {
	for bits := 1; bits <= 32; bits++ {
		for _, a := range invalidNumbers(bits) {
			if a >= 0 && a < power(bits) {
				continue
			}
			for _, b := range slices.Concat(edges(bits), invalidNumbers(bits)) {
				expectDistance(t, a, b, bits, 0)
				expectDistance(t, b, a, bits, 0)
				expectBefore(t, a, b, bits, false)
				expectBefore(t, b, a, bits, false)
			}
		}
	}
	for _, bits := range invalidBits {
		for _, a := range extremes {
			for _, b := range extremes {
				expectDistance(t, a, b, bits, 0)
				expectBefore(t, a, b, bits, false)
			}
		}
	}
}

// sizes returns sizes for Within around 0, around d, around 2^bits and far beyond.
func sizes(d, bits int) []int {
	size := power(bits)
	return append([]int{-1, 0, 1, 2, d - 1, d, d + 1, d + 2, size - 1, size, size + 1, 2 * size, -size}, extremes...)
}

// P4.3: sizes 0, 1, 2^bits, beyond it and negative, written out.
func TestWithinValues(t *testing.T) {
	for _, c := range []struct {
		n, first, size, bits int
		want                 bool
	}{
		{0, 0, 0, 8, false}, {7, 7, 0, 8, false}, {7, 7, 1, 8, true}, {8, 7, 1, 8, false}, {6, 7, 1, 8, false},
		{8, 7, 2, 8, true}, {9, 7, 2, 8, false}, {0, 255, 2, 8, true}, {1, 255, 2, 8, false}, {254, 255, 2, 8, false},
		{6, 7, 255, 8, false}, {5, 7, 255, 8, true}, {6, 7, 256, 8, true}, {7, 7, 256, 8, true}, {255, 0, 256, 8, true},
		{7, 7, 257, 8, false}, {7, 7, 512, 8, false}, {7, 7, math.MaxInt, 8, false},
		{7, 7, -1, 8, false}, {8, 7, -255, 8, false}, {7, 7, -256, 8, false}, {7, 7, math.MinInt, 8, false},
		{0, 0, 0, 1, false}, {0, 0, 1, 1, true}, {1, 0, 1, 1, false}, {1, 0, 2, 1, true}, {0, 1, 2, 1, true}, {0, 0, 3, 1, false},
		{1<<32 - 1, 0, 1 << 32, 32, true}, {1<<32 - 1, 0, 1<<32 - 1, 32, false}, {0, 0, 1<<32 + 1, 32, false},
		{0, 1<<32 - 1, 2, 32, true}, {1, 1<<32 - 1, 2, 32, false}, {0, 0, math.MaxInt, 32, false}, {0, 0, math.MinInt, 32, false},
	} {
		expectWithin(t, c.n, c.first, c.size, c.bits, c.want)
	}
}

// P4.3: the definition, for every width and any size.
func TestWithin(t *testing.T) {
	for bits := 1; bits <= 32; bits++ {
		for _, n := range edges(bits) {
			for _, first := range edges(bits) {
				d := congruent(n, -1, first, bits)
				for _, size := range sizes(d, bits) {
					expectWithin(t, n, first, size, bits, size >= 0 && size <= power(bits) && d < size)
				}
			}
		}
	}
}

// P4.3: no number is Within if it, the first number or the width is not valid, whatever the size is.
func TestWithinInvalid(t *testing.T) {
	for bits := 1; bits <= 32; bits++ {
		for _, bad := range invalidNumbers(bits) {
			if bad >= 0 && bad < power(bits) {
				continue
			}
			for _, n := range append(edges(bits), bad) {
				for _, size := range sizes(0, bits) {
					expectWithin(t, n, bad, size, bits, false)
					expectWithin(t, bad, n, size, bits, false)
				}
			}
		}
	}
	for _, bits := range invalidBits {
		for _, n := range extremes {
			for _, size := range extremes {
				expectWithin(t, n, n, size, bits, false)
				expectWithin(t, n, 0, size, bits, false)
				expectWithin(t, 0, n, size, bits, false)
			}
		}
	}
}

// expectPair checks what P4.4 says of two Valid numbers.
func expectPair(t *testing.T, a, b, bits int) {
	t.Helper()
	d := serial.Distance(a, b, bits)
	expectAdd(t, a, d, bits, b)
	forth, back := serial.Before(a, b, bits), serial.Before(b, a, bits)
	if forth && back {
		t.Fatalf("%d and %d are each Before the other, of %d bits", a, b, bits)
	}
	if (forth || back) == (a == b || d == power(bits-1)) {
		t.Fatalf("%d and %d of %d bits have the distance %d; Before is %t and %t", a, b, bits, d, forth, back)
	}
}

// P4.4: Add undoes Distance, and at most one of two numbers is Before the other.
func TestPairs(t *testing.T) {
	next := pseudo()
	for bits := 1; bits <= 32; bits++ {
		for _, a := range edges(bits) {
			for _, b := range edges(bits) {
				expectPair(t, a, b, bits)
			}
			expectPair(t, a, (a+power(bits-1))%power(bits), bits)
		}
		for range 500 {
			expectPair(t, int(next()%uint64(power(bits))), int(next()%uint64(power(bits))), bits)
		}
	}
	for bits := 1; bits <= 8; bits++ {
		for a := range power(bits) {
			for b := range power(bits) {
				expectPair(t, a, b, bits)
			}
		}
	}
}

// P4.4: exactly size numbers are Within, those that follow each other from the first on.
func TestWithinCount(t *testing.T) {
	for bits := 1; bits <= 6; bits++ {
		for first := range power(bits) {
			for size := range power(bits) + 1 {
				count := 0
				for n := range power(bits) {
					if serial.Within(n, first, size, bits) {
						count++
					}
				}
				if count != size {
					t.Fatalf("%d numbers of %d bits are Within %d and size %d", count, bits, first, size)
				}
				for i := range size {
					expectWithin(t, serial.Add(first, i, bits), first, size, bits, true)
				}
			}
		}
	}
}
