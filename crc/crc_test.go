package crc_test

import (
	"bytes"
	"hash/crc32"
	"testing"

	"spacecraft/crc"
)

// digits is the text of the chapter's examples.
const digits = "123456789"

// pattern returns n bytes that follow no simple rule but are the same in every run.
func pattern(n int) []byte {
	b := make([]byte, n)
	x := uint32(n) + 12345
	for i := range b {
		x = x*1664525 + 1013904223
		b[i] = byte(x >> 24)
	}
	return b
}

// literal16 is P1.1 word for word: bit by bit, with the comparison that the chapter describes.
func literal16(c uint16, b []byte) uint16 {
	for _, x := range b {
		for bit := 7; bit >= 0; bit-- {
			differs := c>>15 != uint16(x>>bit)&1
			c <<= 1
			if differs {
				c ^= 0x1021
			}
		}
	}
	return c
}

// literal32 is P1.3 word for word.
func literal32(c uint32, b []byte) uint32 {
	r := ^c
	for _, x := range b {
		for bit := range 8 {
			differs := r&1 != uint32(x>>bit)&1
			r >>= 1
			if differs {
				r ^= 0x82F63B78
			}
		}
	}
	return ^r
}

// P1.1: published check values of CRC-16-CCITT with the initial value FFFF.
func TestSum16Values(t *testing.T) {
	for _, c := range []struct {
		in   string
		want uint16
	}{
		{"", 0xFFFF},
		{"A", 0xB915},
		{"\x00", 0xE1F0},
		{"\xFF\xFF", 0x0000},
		{digits, 0x29B1},
	} {
		if got := crc.Sum16([]byte(c.in)); got != c.want {
			t.Errorf("Sum16(%q) = %04X, want %04X", c.in, got, c.want)
		}
	}
	if crc.Sum16(nil) != 0xFFFF {
		t.Error("Sum16 of nil")
	}
}

// P1.1: the definition, for every register value, every byte and many lengths.
func TestUpdate16Definition(t *testing.T) {
	for c := range 1 << 16 {
		x := []byte{byte(c * 31), byte(c >> 3)}
		if got, want := crc.Update16(uint16(c), x), literal16(uint16(c), x); got != want {
			t.Fatalf("Update16(%04X, %X) = %04X, want %04X", c, x, got, want)
		}
	}
	for x := range 256 {
		for _, c := range []uint16{0, 1, 0x8000, 0x7FFF, 0xFFFF, 0x1021} {
			b := []byte{byte(x)}
			if got, want := crc.Update16(c, b), literal16(c, b); got != want {
				t.Errorf("Update16(%04X, %X) = %04X, want %04X", c, b, got, want)
			}
		}
	}
	for n := range 300 {
		b := pattern(n)
		if got, want := crc.Sum16(b), literal16(0xFFFF, b); got != want {
			t.Errorf("Sum16 of %d bytes = %04X, want %04X", n, got, want)
		}
	}
}

// P1.1, P1.3: no bytes leave the checksum as it is.
func TestUpdateNothing(t *testing.T) {
	for _, c := range []uint32{0, 1, 0x29B1, 0xFFFF, 0x80000000, 0xE3069283, 0xFFFFFFFF} {
		for _, b := range [][]byte{nil, {}} {
			if got := crc.Update16(uint16(c), b); got != uint16(c) {
				t.Errorf("Update16(%04X, nothing) = %04X", uint16(c), got)
			}
			if got := crc.Update32(c, b); got != c {
				t.Errorf("Update32(%08X, nothing) = %08X", c, got)
			}
		}
	}
}

// P1.2: the bytes, then the checksum with its more significant byte first.
func TestAppend16(t *testing.T) {
	for _, c := range []struct{ in, want string }{
		{"", "\xFF\xFF"},
		{"\x00", "\x00\xE1\xF0"},
		{"\xFF\xFF", "\xFF\xFF\x00\x00"},
		{digits, digits + "\x29\xB1"},
	} {
		if got := crc.Append16([]byte(c.in)); string(got) != c.want {
			t.Errorf("Append16(%q) = %X, want %X", c.in, got, c.want)
		}
	}
	if got := crc.Append16(nil); string(got) != "\xFF\xFF" {
		t.Errorf("Append16(nil) = %X", got)
	}
}

// P1.2 and the rule Memory: the argument is not changed, even where it has room for the checksum, and the result is new.
func TestAppend16Memory(t *testing.T) {
	room := []byte("123456789++")
	b := room[:9]
	got := crc.Append16(b)
	if string(room) != "123456789++" {
		t.Errorf("the argument became %q", room)
	}
	got[0] = 'x'
	if b[0] != '1' {
		t.Error("the result shares memory with the argument")
	}
	whole := crc.Append16(b)
	kept := bytes.Clone(whole)
	crc.Check16(whole)
	crc.Sum16(whole)
	crc.Sum32(whole)
	if !bytes.Equal(whole, kept) {
		t.Error("a checksum changed its argument")
	}
}

// P1.2: fewer than two bytes are rejected, whatever they are.
func TestCheck16Short(t *testing.T) {
	if crc.Check16(nil) || crc.Check16([]byte{}) {
		t.Error("Check16 accepts no bytes")
	}
	for x := range 256 {
		if crc.Check16([]byte{byte(x)}) {
			t.Errorf("Check16 accepts the single byte %02X", x)
		}
	}
}

// P1.2: two bytes are accepted exactly if they are the checksum of no bytes.
func TestCheck16TwoBytes(t *testing.T) {
	for s := range 1 << 16 {
		b := []byte{byte(s >> 8), byte(s)}
		if got := crc.Check16(b); got != (s == 0xFFFF) {
			t.Fatalf("Check16(%X) = %t", b, got)
		}
	}
}

// P1.2: of all checksums behind a text, only its own is accepted.
func TestCheck16Exact(t *testing.T) {
	b := []byte(digits + "\x00\x00")
	for s := range 1 << 16 {
		b[9], b[10] = byte(s>>8), byte(s)
		if got := crc.Check16(b); got != (s == 0x29B1) {
			t.Fatalf("Check16 with the checksum %04X = %t", s, got)
		}
	}
	for _, bad := range []string{digits, digits + "\x29", digits + "\xB1\x29", digits + "\x29\xB1\x01", digits[1:] + "\x29\xB1"} {
		if crc.Check16([]byte(bad)) {
			t.Errorf("Check16 accepts %X", bad)
		}
	}
}

// P1.3: published values of CRC-32C.
func TestSum32Values(t *testing.T) {
	for _, c := range []struct {
		in   []byte
		want uint32
	}{
		{nil, 0},
		{[]byte{}, 0},
		{[]byte("a"), 0xC1D04330},
		{[]byte(digits), 0xE3069283},
		{make([]byte, 32), 0x8A9136AA},
		{bytes.Repeat([]byte{0xFF}, 32), 0x62A8AB43},
	} {
		if got := crc.Sum32(c.in); got != c.want {
			t.Errorf("Sum32(%X) = %08X, want %08X", c.in, got, c.want)
		}
	}
}

// P1.3: the definition, and the library's CRC-32C, for every byte and for many lengths and registers.
func TestUpdate32Definition(t *testing.T) {
	table := crc32.MakeTable(crc32.Castagnoli)
	check := func(c uint32, b []byte) {
		t.Helper()
		got := crc.Update32(c, b)
		if want := literal32(c, b); got != want {
			t.Errorf("Update32(%08X, %d bytes) = %08X, want %08X", c, len(b), got, want)
		}
		if want := crc32.Update(c, table, b); got != want {
			t.Errorf("Update32(%08X, %d bytes) = %08X, the library's is %08X", c, len(b), got, want)
		}
	}
	registers := []uint32{0, 1, 0x80000000, 0x7FFFFFFF, 0xFFFFFFFE, 0xFFFFFFFF, 0x82F63B78, 0xE3069283}
	for x := range 256 {
		for _, c := range registers {
			check(c, []byte{byte(x)})
		}
	}
	for bit := range 32 {
		check(1<<bit, []byte{0x5A, 0xA5})
	}
	for n := range 300 {
		check(0, pattern(n))
		check(registers[n%len(registers)], pattern(n))
	}
	for n := range 300 {
		if b := pattern(n); crc.Sum32(b) != crc.Update32(0, b) {
			t.Errorf("Sum32 of %d bytes is not Update32 from 0", n)
		}
	}
}

// P1.4: a text can be cut anywhere, also before its first and after its last byte.
func TestContinue(t *testing.T) {
	for _, b := range [][]byte{nil, []byte(digits), pattern(257), make([]byte, 40), bytes.Repeat([]byte{0xFF}, 40)} {
		sum16, sum32 := crc.Sum16(b), crc.Sum32(b)
		for i := range len(b) + 1 {
			if got := crc.Update16(crc.Sum16(b[:i]), b[i:]); got != sum16 {
				t.Errorf("cut at %d of %d: Update16 = %04X, want %04X", i, len(b), got, sum16)
			}
			if got := crc.Update32(crc.Sum32(b[:i]), b[i:]); got != sum32 {
				t.Errorf("cut at %d of %d: Update32 = %08X, want %08X", i, len(b), got, sum32)
			}
		}
	}
}

// P1.4: a text can be processed one byte at a time.
func TestContinueByByte(t *testing.T) {
	b := pattern(100)
	c16, c32 := crc.Sum16(nil), crc.Sum32(nil)
	for _, x := range b {
		c16, c32 = crc.Update16(c16, []byte{x}), crc.Update32(c32, []byte{x})
	}
	if c16 != crc.Sum16(b) || c32 != crc.Sum32(b) {
		t.Errorf("byte by byte: %04X, %08X; at once: %04X, %08X", c16, c32, crc.Sum16(b), crc.Sum32(b))
	}
}

// P1.5: what Append16 returns is accepted.
func TestAppendedAccepted(t *testing.T) {
	for n := range 300 {
		if !crc.Check16(crc.Append16(pattern(n))) || !crc.Check16(crc.Append16(make([]byte, n))) {
			t.Errorf("Check16 rejects what Append16 returned for %d bytes", n)
		}
	}
}

// burst inverts the bits of errors in b, from bit number at on; the bits of a byte count from its most significant one.
func burst(b []byte, at int, errors uint16) {
	for i := range 16 {
		if errors>>(15-i)&1 != 0 {
			b[(at+i)/8] ^= 0x80 >> ((at + i) % 8)
		}
	}
}

// P1.5: all errors within 16 consecutive bits, in short strings.
func TestBurstsAll(t *testing.T) {
	for _, text := range []string{"", "\x00", "\xFF", "AB\x80"} {
		b := crc.Append16([]byte(text))
		for at := range 8*len(b) - 15 {
			for e := 1; e < 1<<16; e++ {
				burst(b, at, uint16(e))
				if crc.Check16(b) {
					t.Fatalf("%q: the error %04X at bit %d is accepted", text, e, at)
				}
				burst(b, at, uint16(e))
			}
		}
		if !crc.Check16(b) {
			t.Fatalf("%q: the restored bytes are rejected", text)
		}
	}
}

// P1.5: errors of one and of several bits all over a frame of the greatest size.
func TestBurstsInFrame(t *testing.T) {
	b := crc.Append16(pattern(1022))
	for at := 0; at+16 <= 8*len(b); at += 5 {
		for _, e := range []uint16{0x8000, 0x0001, 0xFFFF, 0x8001, 0x1021, 0x8810} {
			burst(b, at, e)
			if crc.Check16(b) {
				t.Fatalf("the error %04X at bit %d is accepted", e, at)
			}
			burst(b, at, e)
		}
	}
}
