package scramble_test

import (
	"bytes"
	"encoding/hex"
	"math"
	"slices"
	"strings"
	"testing"

	"spacecraft/scramble"
)

// period is the period of the sequence, in bytes and in bits.
const period = 255

// written is one period of the sequence.
const written = `
	FF480EC09A0D70BC8E2C93ADA7B746CE 5A977DCC32A2BF3E0A10F18894CDEAB1
	FE901D81341AE1791C59275B4F6E8D9C B52EFB9865457E7C1421E311299BD563
	FD203B026835C2F238B24EB69EDD1B39 6A5DF730CA8AFCF82843C6225337AAC7
	FA407604D06B85E471649D6D3DBA3672 D4BBEE619515F9F050878C44A66F558F
	F480EC09A0D70BC8E2C93ADA7B746CE5 A977DCC32A2BF3E0A10F18894CDEAB1F
	E901D81341AE1791C59275B4F6E8D9CB 52EFB9865457E7C1421E311299BD563F
	D203B026835C2F238B24EB69EDD1B396 A5DF730CA8AFCF82843C6225337AAC7F
	A407604D06B85E471649D6D3DBA3672D 4BBEE619515F9F050878C44A66F558`

// lengths are ordinary ones and those next to where a period or a frame ends.
var lengths = []int{0, 1, 2, 3, 4, 5, 6, 7, 8, 9, 31, 32, 33, 100, 254, 255, 256, 257, 509, 510, 511, 1019, 1024, 4096, 9973}

// tooSmall are the numbers for which Sequence returns nothing.
var tooSmall = []int{0, -1, -2, -5, -8, -254, -255, -256, math.MinInt8, math.MinInt32, math.MinInt + 1, math.MinInt}

// table returns one period of the sequence.
func table(t *testing.T) []byte {
	t.Helper()
	b, err := hex.DecodeString(strings.Join(strings.Fields(written), ""))
	if err != nil || len(b) != period {
		t.Fatalf("the table has %d bytes: %v", len(b), err)
	}
	return b
}

// expected returns the first n bytes of the sequence, out of the table.
func expected(t *testing.T, n int) []byte {
	t.Helper()
	return bytes.Repeat(table(t), n/period+1)[:n]
}

// bitsOf returns the bits of b, each as 0 or 1, that of every byte's most significant bit first.
func bitsOf(b []byte) []int {
	var bits []int
	for _, x := range b {
		for i := 7; i >= 0; i-- {
			bits = append(bits, int(x>>i)&1)
		}
	}
	return bits
}

// repeats reports whether all of list is as the element p places before it.
func repeats[T comparable](list []T, p int) bool {
	return slices.Equal(list[p:], list[:len(list)-p])
}

// pseudo returns n bytes that follow no simple rule but are the same in every run.
func pseudo(n int) []byte {
	b := make([]byte, n)
	x := uint64(n)*2 + 0x9E3779B97F4A7C15
	for i := range b {
		x ^= x << 13
		x ^= x >> 7
		x ^= x << 17
		b[i] = byte(x >> 20)
	}
	return b
}

// texts returns byte strings of length n: zeros, ones, a regular one, the sequence itself and two without a rule.
func texts(n int) [][]byte {
	return [][]byte{
		make([]byte, n),
		bytes.Repeat([]byte{0xFF}, n),
		bytes.Repeat([]byte{0x55, 0xAA}, n)[:n],
		scramble.Sequence(n),
		pseudo(n),
		pseudo(n + 1)[1:],
	}
}

// expectBytes checks that got, the result of the call what, is want.
func expectBytes(t *testing.T, what string, got, want []byte) {
	t.Helper()
	if len(got) != len(want) {
		t.Fatalf("%s has %d bytes, want %d", what, len(got), len(want))
	}
	for i := range want {
		if got[i] != want[i] {
			t.Fatalf("%s: byte %d is %02X, want %02X", what, i, got[i], want[i])
		}
	}
}

// P12.1: the first and the third example of the chapter.
func TestSequenceExamples(t *testing.T) {
	expectBytes(t, "Sequence(5)", scramble.Sequence(5), []byte{0xFF, 0x48, 0x0E, 0xC0, 0x9A})
	expectBytes(t, "Sequence(-1)", scramble.Sequence(-1), nil)
}

// P12.1: every length up to some periods and some longer ones, against the table.
func TestSequenceTable(t *testing.T) {
	for n := range 3*period + 2 {
		expectBytes(t, "Sequence", scramble.Sequence(n), expected(t, n))
	}
	for _, n := range []int{1024, 4096, 9973, 1 << 16, 1<<20 + 1} {
		expectBytes(t, "Sequence", scramble.Sequence(n), expected(t, n))
	}
}

// P12.1: nothing if n is less than 1.
func TestSequenceNothing(t *testing.T) {
	for _, n := range tooSmall {
		if got := scramble.Sequence(n); len(got) != 0 {
			t.Errorf("Sequence(%d) = % X", n, got)
		}
	}
}

// P12.1: the first eight bits are 1, and each further bit follows from those one, three, five and eight places before it.
func TestSequenceRule(t *testing.T) {
	for _, n := range lengths {
		bits := bitsOf(scramble.Sequence(n))
		if len(bits) != 8*n {
			t.Fatalf("Sequence(%d) has %d bits", n, len(bits))
		}
		for i, bit := range bits {
			want := 1
			if i >= 8 {
				want = (bits[i-1] + bits[i-3] + bits[i-5] + bits[i-8]) % 2
			}
			if bit != want {
				t.Fatalf("Sequence(%d): bit %d is %d, want %d", n, i, bit, want)
			}
		}
	}
}

// P12.2: the second example of the chapter.
func TestApplyExamples(t *testing.T) {
	expectBytes(t, "Apply of 00 00", scramble.Apply([]byte{0, 0}), []byte{0xFF, 0x48})
	expectBytes(t, "Apply of FF 49", scramble.Apply([]byte{0xFF, 0x49}), []byte{0x00, 0x01})
}

// P12.2: no bytes, nil or not, are no bytes.
func TestApplyNothing(t *testing.T) {
	if got := scramble.Apply(nil); len(got) != 0 {
		t.Errorf("Apply(nil) = % X", got)
	}
	if got := scramble.Apply([]byte{}); len(got) != 0 {
		t.Errorf("Apply of no bytes = % X", got)
	}
	if got := scramble.Apply([]byte{1, 2}[:0]); len(got) != 0 {
		t.Errorf("Apply of no bytes with room for two = % X", got)
	}
}

// P12.2: every value of a byte, in the first place and in the one after it.
func TestApplyValues(t *testing.T) {
	for x := range 256 {
		expectBytes(t, "Apply of one byte", scramble.Apply([]byte{byte(x)}), []byte{byte(255 - x)})
		expectBytes(t, "Apply of two bytes", scramble.Apply([]byte{0, byte(x)}), []byte{0xFF, byte(x) ^ 0x48})
	}
}

// P12.2: each bit of the result tells whether the bit of the argument differs from that of the sequence.
func TestApplyBits(t *testing.T) {
	for _, n := range lengths {
		sequence := bitsOf(expected(t, n))
		for _, b := range texts(n) {
			before, after := bitsOf(b), bitsOf(scramble.Apply(b))
			if len(after) != len(before) {
				t.Fatalf("Apply of %d bytes has %d", n, len(after)/8)
			}
			for i := range after {
				if (after[i] == 1) != (before[i] != sequence[i]) {
					t.Fatalf("Apply of %d bytes: bit %d is %d, from %d and %d", n, i, after[i], before[i], sequence[i])
				}
			}
		}
	}
}

// P12.1, P12.2: zeros become the sequence, ones its complement, and the sequence becomes zeros.
func TestApplyRegular(t *testing.T) {
	for _, n := range lengths {
		want := expected(t, n)
		expectBytes(t, "Apply of zeros", scramble.Apply(make([]byte, n)), want)
		expectBytes(t, "Apply of the sequence", scramble.Apply(scramble.Sequence(n)), make([]byte, n))
		for i := range want {
			want[i] = ^want[i]
		}
		expectBytes(t, "Apply of ones", scramble.Apply(bytes.Repeat([]byte{0xFF}, n)), want)
	}
}

// P12.3: Apply of Apply restores the bytes.
func TestApplyTwice(t *testing.T) {
	for _, n := range lengths {
		for _, b := range texts(n) {
			expectBytes(t, "Apply of Apply", scramble.Apply(scramble.Apply(b)), b)
		}
	}
	if got := scramble.Apply(scramble.Apply(nil)); len(got) != 0 {
		t.Errorf("Apply of Apply of nil = % X", got)
	}
}

// P12.3: only together do the two calls leave the bytes as they were, because no byte of the sequence is 0.
func TestApplyChanges(t *testing.T) {
	for _, b := range texts(1024) {
		for i, x := range scramble.Apply(b) {
			if x == b[i] {
				t.Fatalf("Apply leaves byte %d as it was", i)
			}
		}
	}
}

// P12.4: 255 bytes are a period, and no fewer bytes are.
func TestBytePeriod(t *testing.T) {
	b := scramble.Sequence(5000)
	if len(b) != 5000 {
		t.Fatalf("Sequence(5000) has %d bytes", len(b))
	}
	if !repeats(b, period) {
		t.Error("255 bytes are no period")
	}
	for p := 1; p < period; p++ {
		if repeats(b[:2*period], p) {
			t.Errorf("%d bytes are a period", p)
		}
	}
}

// P12.4: 255 bits are a period, and no fewer bits are.
func TestBitPeriod(t *testing.T) {
	bits := bitsOf(scramble.Sequence(5000))
	if len(bits) != 40000 {
		t.Fatalf("Sequence(5000) has %d bits", len(bits))
	}
	if !repeats(bits, period) {
		t.Error("255 bits are no period")
	}
	for p := 1; p < period; p++ {
		if repeats(bits[:2*period], p) {
			t.Errorf("%d bits are a period", p)
		}
	}
}

// P12.4: with a period of 255 bits and no less, a period of bytes contains each byte but 00 once.
func TestPeriodBytes(t *testing.T) {
	var times [256]int
	for _, x := range scramble.Sequence(period) {
		times[x]++
	}
	for x, n := range times {
		if want := min(x, 1); n != want {
			t.Errorf("%02X occurs %d times, want %d", x, n, want)
		}
	}
}

// P12.4: a shorter sequence is the beginning of a longer one, and so for what Apply returns.
func TestShorterSequence(t *testing.T) {
	long := scramble.Sequence(9973)
	text := pseudo(9973)
	mixed := scramble.Apply(text)
	for _, n := range lengths {
		expectBytes(t, "a shorter sequence", scramble.Sequence(n), long[:n])
		expectBytes(t, "Apply of the first bytes", scramble.Apply(text[:n]), mixed[:n])
		for _, m := range lengths {
			if m >= n {
				expectBytes(t, "a shorter sequence", scramble.Sequence(n), scramble.Sequence(m)[:n])
			}
		}
	}
}

// P12.2 and the rule Memory: Apply changes neither its argument nor the bytes behind it.
func TestApplyArgumentUnchanged(t *testing.T) {
	for _, n := range lengths {
		room := pseudo(n + 16)
		kept := bytes.Clone(room)
		scramble.Apply(room[:n])
		scramble.Apply(room[8 : 8+n])
		expectBytes(t, "the argument", room, kept)
	}
}

// P12.2 and the rule Memory: the argument may change after Apply, and so may the result.
func TestApplyArgumentNotShared(t *testing.T) {
	for _, n := range lengths {
		b := pseudo(n)
		kept := bytes.Clone(b)
		got := scramble.Apply(b)
		want := bytes.Clone(got)
		clear(b)
		expectBytes(t, "the result after a change of the argument", got, want)
		copy(b, kept)
		for i := range got {
			got[i] ^= 0x5A
		}
		_ = append(got, 0x99, 0x99)
		expectBytes(t, "the argument after a change of the result", b, kept)
		expectBytes(t, "Apply after these changes", scramble.Apply(b), want)
	}
}

// P12.1, P12.2 and the rule Memory: results share no memory with each other, nor with anything that later results come from.
func TestResultsNotShared(t *testing.T) {
	for _, n := range lengths {
		b := pseudo(n)
		for _, call := range []func() []byte{
			func() []byte { return scramble.Sequence(n) },
			func() []byte { return scramble.Apply(b) },
			func() []byte { return scramble.Apply(make([]byte, n)) },
		} {
			first, second := call(), call()
			want := bytes.Clone(second)
			for i := range first {
				first[i] ^= 0xA5
			}
			_ = append(first, 0x99, 0x99)
			expectBytes(t, "another result", second, want)
			expectBytes(t, "a later result", call(), want)
			expectBytes(t, "a later Sequence", scramble.Sequence(n), expected(t, n))
		}
	}
}

// P12.1, P12.2 and the rule Determinism: what was called before does not matter.
func TestCallsIndependent(t *testing.T) {
	b := pseudo(300)
	want := scramble.Apply(b)
	for _, n := range append(slices.Clone(tooSmall), lengths...) {
		scramble.Sequence(n)
		scramble.Apply(pseudo(max(n, 0)))
		expectBytes(t, "Sequence(256)", scramble.Sequence(256), expected(t, 256))
		expectBytes(t, "Apply", scramble.Apply(b), want)
	}
}
