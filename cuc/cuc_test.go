package cuc_test

import (
	"bytes"
	"encoding/hex"
	"math"
	"slices"
	"testing"

	"spacecraft/api"
	"spacecraft/cuc"
)

// formats are the valid formats in the order of their preambles.
var formats = []cuc.Format{
	{1, 0}, {1, 1}, {1, 2}, {1, 3}, {2, 0}, {2, 1}, {2, 2}, {2, 3},
	{3, 0}, {3, 1}, {3, 2}, {3, 3}, {4, 0}, {4, 1}, {4, 2}, {4, 3},
}

// invalidFormats are formats beyond each bound. Some of them have a valid format as their low bits, or would have a
// preamble from 16 to 31, or a Size from 2 to 8.
var invalidFormats = []cuc.Format{
	{}, {0, 1}, {0, 3}, {5, 0}, {5, 3}, {1, -1}, {4, -1}, {1, 4}, {2, 4}, {4, 4}, {0, -1}, {5, 4}, {0, 4}, {5, -1},
	{-1, 0}, {-1, 3}, {-4, 2}, {2, -2}, {3, 5}, {3, -3}, {6, 0}, {8, 0}, {1, 8}, {0, 5}, {0, 15}, {2, -4}, {5, -4}, {8, 1},
	{257, 1}, {2, 256}, {1 << 32, 0}, {1<<32 + 1, 1}, {-1<<32 + 4, 3}, {2, 1 << 32}, {2, 1<<32 + 2}, {2, -1 << 32}, {1, -1<<32 + 1},
	{math.MaxInt, 0}, {math.MaxInt, 3}, {math.MinInt, 0}, {math.MinInt, 3}, {math.MinInt + 1, 1},
	{1, math.MaxInt}, {4, math.MaxInt}, {1, math.MinInt}, {4, math.MinInt}, {2, math.MinInt + 2},
	{math.MaxInt, math.MaxInt}, {math.MinInt, math.MinInt}, {math.MaxInt, math.MinInt}, {math.MinInt, math.MaxInt},
}

// invalidTimes are not from 0 to MaxTime. Some of them have a time as their low bits.
var invalidTimes = []int{
	-1, -2, -255, -256, -257, -65536, -1 << 32, -1 << 40, -1<<40 - 1, api.MaxTime + 1, api.MaxTime + 2, api.MaxTime + 255, api.MaxTime + 256,
	2 * api.MaxTime, 1 << 48, 1 << 62, math.MaxInt, math.MaxInt - 1, math.MinInt, math.MinInt + 1, math.MinInt + 1000,
}

// trails are byte strings that may follow a time code.
var trails = [][]byte{nil, {0}, {1}, {255}, {0, 0, 0, 0}, {16, 1, 31, 2}, bytes.Repeat([]byte{0xA5}, 1000)}

// pseudo returns numbers that follow no simple rule but are the same in every run.
func pseudo() func() uint64 {
	x := uint64(0x9E3779B97F4A7C15)
	return func() uint64 {
		x ^= x << 13
		x ^= x >> 7
		x ^= x << 17
		return x
	}
}

// power is 256 to the given exponent.
func power(exponent int) int {
	n := 1
	for range exponent {
		n *= 256
	}
	return n
}

// fits tells whether the seconds of t have Coarse bytes.
func fits(t int, f cuc.Format) bool { return t/256 < power(f.Coarse) }

// literalCode is the time code word for word.
func literalCode(t int, f cuc.Format) []byte {
	code := []byte{byte(16 + 4*(f.Coarse-1) + f.Fine)}
	for i := f.Coarse - 1; i >= 0; i-- {
		code = append(code, byte(t/256/power(i)%256))
	}
	if f.Fine != 0 {
		code = append(code, byte(t%256))
		for range f.Fine - 1 {
			code = append(code, 0)
		}
	}
	return code
}

// literalRound is the greatest time not after t of which f has a time code without dropped ticks. A time that does not
// fit is after all that do.
func literalRound(t int, f cuc.Format) int {
	if !fits(t, f) {
		t = power(f.Coarse)*256 - 1
	}
	if f.Fine == 0 {
		return t / 256 * 256
	}
	return t
}

// times returns times at which something changes in some format, and some others, ascending.
func times() []int {
	var list []int
	for _, t := range []int{0, 1000, 256 * 1000, 1 << 16, 1 << 24, 1 << 32, api.MaxTime, 0x123456, 0x12345678, 0x123456789A, 0xFEDCBA9876} {
		for _, d := range []int{-512, -257, -256, -255, -2, -1, 0, 1, 2, 127, 128, 255, 256, 257, 511, 512} {
			list = append(list, t+d)
		}
	}
	next := pseudo()
	for range 1000 {
		list = append(list, int(next()%api.MaxTime)>>(next()%40))
	}
	list = slices.DeleteFunc(list, func(t int) bool { return t < 0 || t > api.MaxTime })
	slices.Sort(list)
	return slices.Compact(list)
}

func expectCode(t *testing.T, time int, f cuc.Format, want []byte) {
	t.Helper()
	if code, err := cuc.Encode(time, f); err != api.OK || !bytes.Equal(code, want) {
		t.Fatalf("Encode(%d, %v) = %X, %d, want %X", time, f, code, err, want)
	}
}

func expectNoCode(t *testing.T, time int, f cuc.Format, want api.Errno) {
	t.Helper()
	if code, err := cuc.Encode(time, f); err != want || len(code) != 0 {
		t.Fatalf("Encode(%d, %v) = %X, %d, want the error %d", time, f, code, err, want)
	}
}

// expectTime checks that b begins with the time code of time in f.
func expectTime(t *testing.T, b []byte, time int, f cuc.Format) {
	t.Helper()
	got, format, size, err := cuc.Decode(b)
	if got != time || format != f || size != 1+f.Coarse+f.Fine || err != api.OK {
		t.Fatalf("Decode(%X) = %d, %v, %d, %d, want %d, %v", b, got, format, size, err, time, f)
	}
}

func expectNoTime(t *testing.T, b []byte, want api.Errno) {
	t.Helper()
	got, format, size, err := cuc.Decode(b)
	if got != 0 || format != (cuc.Format{}) || size != 0 || err != want {
		t.Fatalf("Decode(%X) = %d, %v, %d, %d, want only the error %d", b, got, format, size, err, want)
	}
}

func expectRound(t *testing.T, time int, f cuc.Format, want int) {
	t.Helper()
	if got, err := cuc.Round(time, f); got != want || err != api.OK {
		t.Fatalf("Round(%d, %v) = %d, %d, want %d", time, f, got, err, want)
	}
}

func expectNoRound(t *testing.T, time int, f cuc.Format, want api.Errno) {
	t.Helper()
	if got, err := cuc.Round(time, f); got != 0 || err != want {
		t.Fatalf("Round(%d, %v) = %d, %d, want only the error %d", time, f, got, err, want)
	}
}

func fromHex(t *testing.T, s string) []byte {
	t.Helper()
	b, err := hex.DecodeString(s)
	if err != nil {
		t.Fatal(err)
	}
	return b
}

// P5.2, P5.3, P5.4: the examples of the chapter.
func TestExamples(t *testing.T) {
	expectCode(t, 1000, cuc.Format{1, 1}, []byte{0x11, 0x03, 0xE8})
	expectCode(t, 1000, cuc.Format{2, 0}, []byte{0x14, 0x00, 0x03})
	expectTime(t, []byte{0x14, 0x00, 0x03}, 768, cuc.Format{2, 0})
	expectCode(t, 1000, cuc.Format{4, 3}, []byte{0x1F, 0, 0, 0, 0x03, 0xE8, 0, 0})
	expectNoCode(t, 65536, cuc.Format{1, 1}, api.ErrTime)
	expectRound(t, 65536, cuc.Format{1, 1}, 65535)
}

// P5.1: the 16 valid formats and the sizes of their time codes, written out.
func TestValidFormats(t *testing.T) {
	sizes := []int{2, 3, 4, 5, 3, 4, 5, 6, 4, 5, 6, 7, 5, 6, 7, 8}
	for i, f := range formats {
		if !f.Valid() || f.Size() != sizes[i] {
			t.Errorf("%v: Valid = %t, Size = %d, want true and %d", f, f.Valid(), f.Size(), sizes[i])
		}
	}
}

// P5.1: every other format is invalid and has the size 0.
func TestInvalidFormats(t *testing.T) {
	list := slices.Clone(invalidFormats)
	for coarse := -20; coarse <= 20; coarse++ {
		for fine := -20; fine <= 20; fine++ {
			if f := (cuc.Format{coarse, fine}); !slices.Contains(formats, f) {
				list = append(list, f)
			}
		}
	}
	for _, f := range list {
		if f.Valid() || f.Size() != 0 {
			t.Errorf("%v: Valid = %t, Size = %d, want false and 0", f, f.Valid(), f.Size())
		}
	}
}

// codes are time codes in all valid formats, written out, of times without and with ticks that are dropped.
var codes = []struct {
	time    int
	format  cuc.Format
	code    string
	decoded int
}{
	{0x5A9D, cuc.Format{1, 0}, "105A", 0x5A00},
	{0x5A9D, cuc.Format{1, 1}, "115A9D", 0x5A9D},
	{0x5A9D, cuc.Format{1, 2}, "125A9D00", 0x5A9D},
	{0x5A9D, cuc.Format{1, 3}, "135A9D0000", 0x5A9D},
	{0x5AB39D, cuc.Format{2, 0}, "145AB3", 0x5AB300},
	{0x5AB39D, cuc.Format{2, 1}, "155AB39D", 0x5AB39D},
	{0x5AB39D, cuc.Format{2, 2}, "165AB39D00", 0x5AB39D},
	{0x5AB39D, cuc.Format{2, 3}, "175AB39D0000", 0x5AB39D},
	{0x5AB37C9D, cuc.Format{3, 0}, "185AB37C", 0x5AB37C00},
	{0x5AB37C9D, cuc.Format{3, 1}, "195AB37C9D", 0x5AB37C9D},
	{0x5AB37C9D, cuc.Format{3, 2}, "1A5AB37C9D00", 0x5AB37C9D},
	{0x5AB37C9D, cuc.Format{3, 3}, "1B5AB37C9D0000", 0x5AB37C9D},
	{0xDAB37CE19D, cuc.Format{4, 0}, "1CDAB37CE1", 0xDAB37CE100},
	{0xDAB37CE19D, cuc.Format{4, 1}, "1DDAB37CE19D", 0xDAB37CE19D},
	{0xDAB37CE19D, cuc.Format{4, 2}, "1EDAB37CE19D00", 0xDAB37CE19D},
	{0xDAB37CE19D, cuc.Format{4, 3}, "1FDAB37CE19D0000", 0xDAB37CE19D},
	{0, cuc.Format{1, 0}, "1000", 0},
	{255, cuc.Format{1, 0}, "1000", 0},
	{256, cuc.Format{1, 0}, "1001", 256},
	{511, cuc.Format{4, 0}, "1C00000001", 256},
	{0, cuc.Format{1, 1}, "110000", 0},
	{255, cuc.Format{1, 1}, "1100FF", 255},
	{256, cuc.Format{1, 1}, "110100", 256},
	{0, cuc.Format{4, 3}, "1F00000000000000", 0},
	{255, cuc.Format{4, 3}, "1F00000000FF0000", 255},
	{256, cuc.Format{4, 3}, "1F00000001000000", 256},
	{1<<40 - 1, cuc.Format{4, 3}, "1FFFFFFFFFFF0000", 1<<40 - 1},
	{1<<40 - 1, cuc.Format{4, 0}, "1CFFFFFFFF", 1<<40 - 256},
}

// P5.2, P5.3, P5.5: time codes that are written out, in every format.
func TestCodes(t *testing.T) {
	for _, c := range codes {
		code := fromHex(t, c.code)
		expectCode(t, c.time, c.format, code)
		expectRound(t, c.time, c.format, c.decoded)
		for _, trail := range trails {
			expectTime(t, slices.Concat(code, trail), c.decoded, c.format)
		}
	}
}

// lasts are the last times that the formats with 1 to 4 coarse bytes hold: with ticks, and as what Round returns
// without ticks.
var lasts = []struct{ coarse, ticks, seconds int }{
	{1, 65535, 65280}, {2, 16777215, 16776960}, {3, 4294967295, 4294967040}, {4, 1099511627775, 1099511627520},
}

// P5.2, P5.4: the last time that a format can hold and the one after it; MaxTime, which no format can hold.
func TestLastTimes(t *testing.T) {
	for _, c := range lasts {
		for fine := range 4 {
			f := cuc.Format{c.coarse, fine}
			expectCode(t, c.seconds, f, literalCode(c.seconds, f))
			expectCode(t, c.ticks, f, literalCode(c.ticks, f))
			expectNoCode(t, c.ticks+1, f, api.ErrTime)
			expectNoCode(t, api.MaxTime, f, api.ErrTime)
			last := c.ticks
			if fine == 0 {
				last = c.seconds
			}
			for _, time := range []int{last, c.ticks, c.ticks + 1, api.MaxTime} {
				expectRound(t, time, f, last)
			}
			expectRound(t, c.seconds, f, c.seconds)
			expectRound(t, c.seconds-256, f, c.seconds-256)
		}
	}
}

// P5.2: the definition, in every format; ErrTime for seconds that do not fit.
func TestEncode(t *testing.T) {
	for _, f := range formats {
		for _, time := range times() {
			if fits(time, f) {
				expectCode(t, time, f, literalCode(time, f))
			} else {
				expectNoCode(t, time, f, api.ErrTime)
			}
		}
	}
}

// P5.2: ErrTime for times that do not exist.
func TestEncodeInvalidTime(t *testing.T) {
	for _, f := range formats {
		for _, time := range invalidTimes {
			expectNoCode(t, time, f, api.ErrTime)
		}
	}
}

// P5.2: ErrArg for an invalid format, also if the time is out of range or does not fit.
func TestEncodeInvalidFormat(t *testing.T) {
	for _, f := range invalidFormats {
		for _, time := range slices.Concat([]int{0, 1, 255, 256, 1000, 65536, 1 << 24, 1 << 32, api.MaxTime}, invalidTimes) {
			expectNoCode(t, time, f, api.ErrArg)
		}
	}
}

// P5.2, Memory: the time codes of two calls share no memory.
func TestEncodeMemory(t *testing.T) {
	for _, f := range formats {
		first, _ := cuc.Encode(1000, f)
		second, _ := cuc.Encode(1000, f)
		for i := range first {
			first[i] ^= 0xFF
		}
		if want := literalCode(1000, f); !bytes.Equal(second, want) {
			t.Fatalf("%v: the second time code became %X, want %X", f, second, want)
		}
		expectCode(t, 1000, f, literalCode(1000, f))
	}
}

// P5.3: ErrShort for an empty byte string.
func TestDecodeEmpty(t *testing.T) {
	expectNoTime(t, nil, api.ErrShort)
	expectNoTime(t, []byte{}, api.ErrShort)
	// What lies behind the end of a slice is not a part of it.
	expectNoTime(t, []byte{16, 1}[:0], api.ErrShort)
}

// P5.3: every first byte: ErrForm if it is no preamble, also if too few bytes follow.
func TestDecodePreambles(t *testing.T) {
	for first := range 256 {
		for length := 1; length <= 10; length++ {
			b := make([]byte, length)
			b[0] = byte(first)
			switch {
			case first < 16 || first > 31:
				expectNoTime(t, b, api.ErrForm)
			case length < 1+formats[first-16].Coarse+formats[first-16].Fine:
				expectNoTime(t, b, api.ErrShort)
			default:
				expectTime(t, b, 0, formats[first-16])
			}
		}
	}
	for _, first := range []byte{0, 15, 32, 255} {
		expectNoTime(t, bytes.Repeat([]byte{first}, 8), api.ErrForm)
		expectNoTime(t, bytes.Repeat([]byte{first}, 3), api.ErrForm)
	}
}

// P5.3: the definition, in every format, with any bytes behind the time code; ErrShort if some of it is missing.
func TestDecode(t *testing.T) {
	for _, f := range formats {
		for _, time := range times() {
			if !fits(time, f) {
				continue
			}
			code := literalCode(time, f)
			for _, trail := range trails {
				expectTime(t, slices.Concat(code, trail), literalRound(time, f), f)
			}
			for length := 1; length < len(code); length++ {
				expectNoTime(t, code[:length], api.ErrShort)
			}
		}
	}
}

// P5.3: ErrForm if a byte after that of the ticks is not 0, whatever follows.
func TestDecodeSpareBytes(t *testing.T) {
	for _, f := range formats {
		for _, time := range []int{0, 1, 255, 256, 1000, power(f.Coarse)*256 - 1} {
			code := literalCode(time, f)
			for i := 2 + f.Coarse; i < len(code); i++ {
				for x := 1; x < 256; x++ {
					b := slices.Clone(code)
					b[i] = byte(x)
					expectNoTime(t, b, api.ErrForm)
					expectNoTime(t, append(b, 0, 0), api.ErrForm)
				}
			}
		}
	}
	expectNoTime(t, []byte{0x1F, 0, 0, 0, 0x03, 0xE8, 1, 1}, api.ErrForm)
}

// P5.3: ErrShort comes before ErrForm of a last byte that is not 0.
func TestDecodeErrorOrder(t *testing.T) {
	for coarse := 1; coarse <= 4; coarse++ {
		code := literalCode(1000, cuc.Format{coarse, 3})
		code[2+coarse] = 7
		expectNoTime(t, code[:3+coarse], api.ErrShort)
		expectNoTime(t, code, api.ErrForm)
	}
	expectNoTime(t, []byte{31, 255, 255, 255, 255, 255, 255}, api.ErrShort)
}

// P5.3, Memory: Decode leaves its argument unchanged, with what lies behind its end.
func TestDecodeMemory(t *testing.T) {
	for _, f := range formats {
		code := slices.Concat(literalCode(1000, f), []byte{1, 2, 3, 4})
		for last := range len(code) + 1 {
			b := slices.Clone(code)
			cuc.Decode(b[:last])
			if !bytes.Equal(b, code) {
				t.Fatalf("Decode(%X) changed its argument to %X", code[:last], b)
			}
		}
	}
}

// P5.4: times that are written out, around the end of a second.
func TestRoundValues(t *testing.T) {
	for _, c := range []struct {
		time   int
		format cuc.Format
		want   int
	}{
		{0, cuc.Format{1, 0}, 0}, {1, cuc.Format{1, 0}, 0}, {255, cuc.Format{1, 0}, 0}, {256, cuc.Format{1, 0}, 256},
		{257, cuc.Format{2, 0}, 256}, {511, cuc.Format{3, 0}, 256}, {512, cuc.Format{4, 0}, 512}, {1000, cuc.Format{2, 0}, 768},
		{0, cuc.Format{1, 1}, 0}, {255, cuc.Format{1, 2}, 255}, {256, cuc.Format{1, 3}, 256}, {1000, cuc.Format{4, 3}, 1000},
		{65535, cuc.Format{1, 0}, 65280}, {65536, cuc.Format{1, 0}, 65280}, {65536, cuc.Format{1, 3}, 65535}, {65536, cuc.Format{2, 0}, 65536},
		{api.MaxTime, cuc.Format{1, 0}, 65280}, {api.MaxTime, cuc.Format{4, 0}, 1<<40 - 256}, {api.MaxTime, cuc.Format{4, 1}, 1<<40 - 1},
		{api.MaxTime - 1, cuc.Format{4, 1}, 1<<40 - 1}, {api.MaxTime - 256, cuc.Format{4, 0}, 1<<40 - 256}, {api.MaxTime - 257, cuc.Format{4, 0}, 1<<40 - 512},
	} {
		expectRound(t, c.time, c.format, c.want)
	}
}

// P5.4: the definition, in every format.
func TestRound(t *testing.T) {
	for _, f := range formats {
		for _, time := range times() {
			expectRound(t, time, f, literalRound(time, f))
		}
	}
}

// P5.4: the last of all times so far whose time code drops no ticks, for all times around the range of one coarse byte.
func TestRoundGreatest(t *testing.T) {
	for fine := range 4 {
		f := cuc.Format{1, fine}
		greatest := 0
		for time := range 66000 {
			if fits(time, f) && (fine > 0 || time%256 == 0) {
				greatest = time
			}
			expectRound(t, time, f, greatest)
		}
	}
}

// P5.4: ErrTime for times that do not exist.
func TestRoundInvalidTime(t *testing.T) {
	for _, f := range formats {
		for _, time := range invalidTimes {
			expectNoRound(t, time, f, api.ErrTime)
		}
	}
}

// P5.4: ErrArg for an invalid format, also if the time is out of range.
func TestRoundInvalidFormat(t *testing.T) {
	for _, f := range invalidFormats {
		for _, time := range slices.Concat([]int{0, 1, 255, 256, 1000, 65536, 1 << 24, 1 << 32, api.MaxTime}, invalidTimes) {
			expectNoRound(t, time, f, api.ErrArg)
		}
	}
}

// P5.5: Decode of what Encode returned is what Round returned, with any bytes behind it.
func TestDecodeOfEncode(t *testing.T) {
	next := pseudo()
	for _, f := range formats {
		for _, time := range times() {
			code, err := cuc.Encode(time, f)
			if err != api.OK {
				continue
			}
			if len(code) != f.Size() {
				t.Fatalf("Encode(%d, %v) has %d bytes, want %d", time, f, len(code), f.Size())
			}
			rounded, _ := cuc.Round(time, f)
			expectTime(t, code, rounded, f)
			for range 3 {
				code = append(code, byte(next()))
				expectTime(t, code, rounded, f)
			}
		}
	}
}

// expectSame checks that encoding what Decode reads at the beginning of b, if anything, yields the bytes that it read.
func expectSame(t *testing.T, b []byte) {
	t.Helper()
	time, f, size, err := cuc.Decode(b)
	if err == api.OK {
		expectCode(t, time, f, b[:size])
		expectRound(t, time, f, time)
	}
}

// P5.5: encoding what Decode returned, for all time codes of one coarse byte and for other byte strings.
func TestEncodeOfDecode(t *testing.T) {
	for fine := range 4 {
		for n := range 65536 {
			expectSame(t, []byte{byte(16 + fine), byte(n >> 8), byte(n), 0, 0})
		}
	}
	next := pseudo()
	for preamble := 16; preamble <= 31; preamble++ {
		for range 500 {
			b := []byte{byte(preamble)}
			for range 7 {
				b = append(b, byte(next()>>16))
			}
			// The more of the last bytes are 0, the more formats have a time code here.
			for last := len(b); last >= 1; last-- {
				clear(b[last:])
				expectSame(t, b)
			}
		}
	}
}

// P5.5: the time codes of times that Round does not change are in the order of the times.
func TestOrder(t *testing.T) {
	for _, f := range formats {
		earlier, before := -1, []byte(nil)
		for _, time := range times() {
			rounded, _ := cuc.Round(time, f)
			if rounded <= earlier {
				continue
			}
			expectRound(t, rounded, f, rounded)
			code, err := cuc.Encode(rounded, f)
			if err != api.OK || bytes.Compare(before, code) >= 0 {
				t.Fatalf("%v: the code of %d is %X, %d, that of %d is %X", f, rounded, code, err, earlier, before)
			}
			earlier, before = rounded, code
		}
	}
}
