package clcw_test

import (
	"bytes"
	"math"
	"testing"

	"spacecraft/api"
	"spacecraft/clcw"
)

const (
	least    = math.MinInt
	greatest = math.MaxInt
)

// pseudo returns numbers that follow no simple rule but are the same in every run.
func pseudo() func() uint64 {
	x := uint64(0x9E3779B97F4A7C15)
	return func() uint64 {
		x ^= x << 13
		x ^= x >> 7
		x ^= x << 17
		return x >> 20
	}
}

// ordinary returns a control word that is far from every edge.
func ordinary() api.Clcw {
	return api.Clcw{Channel: 5, Wait: true, Bypass: 2, Next: 0x9C}
}

// edges returns numbers at the edges of 0 to most, and far from them. Some of them have the bits of a number that is permitted,
// and more.
func edges(most int) []int {
	return []int{
		least, least + 1, -1 << 32, -65536, -256, -255, -128, -64, -16, -8, -4, -3, -2, -1,
		0, 1, most - 1, most, most + 1, most + 2, 2*most + 1, 2*most + 2,
		4, 7, 8, 9, 15, 16, 31, 32, 63, 64, 65, 127, 128, 254, 255, 256, 257, 511, 512,
		1 << 16, 1<<16 + 1, 1 << 32, 1<<32 + 1, greatest - 1, greatest,
	}
}

// valid is the chapter's definition, one condition after the other.
func valid(c api.Clcw) bool {
	switch {
	case c.Channel < 0 || c.Channel >= 8:
		return false
	case c.Bypass < 0 || c.Bypass >= 4:
		return false
	case c.Next < 0 || c.Next >= 256:
		return false
	}
	return true
}

// fields holds what four bytes state, in the order of the fields.
type fields struct {
	kind, version, status, procedure          int
	channel, spare1, spare2                   int
	lockout, wait, retransmit, bypass, spare3 int
	next                                      int
}

// number is 1 for true and 0 for false.
func number(set bool) int {
	if set {
		return 1
	}
	return 0
}

// stated returns the fields of the encoding of c.
func stated(c api.Clcw) fields {
	return fields{
		procedure: 1, channel: c.Channel,
		lockout: number(c.Lockout), wait: number(c.Wait), retransmit: number(c.Retransmit), bypass: c.Bypass,
		next: c.Next,
	}
}

// bytes computes the four bytes with sums.
func (f fields) bytes() []byte {
	return []byte{
		byte(128*f.kind + 32*f.version + 4*f.status + f.procedure),
		byte(4*f.channel + f.spare1),
		byte(64*f.spare2 + 32*f.lockout + 16*f.wait + 8*f.retransmit + 2*f.bypass + f.spare3),
		byte(f.next),
	}
}

// encoding is the chapter's encoding of a valid control word.
func encoding(c api.Clcw) []byte { return stated(c).bytes() }

// decoding is P15.2, computed with quotients.
func decoding(b []byte) (api.Clcw, api.Errno) {
	switch {
	case len(b) < 4:
		return api.Clcw{}, api.ErrShort
	case len(b) > 4:
		return api.Clcw{}, api.ErrLong
	case b[0] != 1 || b[1] > 28 || b[1]%4 != 0 || b[2] >= 64 || b[2]%2 != 0:
		return api.Clcw{}, api.ErrForm
	}
	return api.Clcw{
		Channel:    int(b[1]) / 4,
		Lockout:    b[2]/32 == 1,
		Wait:       b[2]/16%2 == 1,
		Retransmit: b[2]/8%2 == 1,
		Bypass:     int(b[2]) / 2 % 4,
		Next:       int(b[3]),
	}, api.OK
}

// expectDecode checks the answer of Decode, and that b stays as it is.
func expectDecode(t *testing.T, b []byte, want api.Clcw, wantErr api.Errno) {
	t.Helper()
	before := bytes.Clone(b)
	got, err := clcw.Decode(b)
	if got != want || err != wantErr {
		t.Fatalf("Decode(% X), of %d bytes, = %+v, %d, want %+v, %d", head(b), len(b), got, err, want, wantErr)
	}
	if !bytes.Equal(b, before) {
		t.Fatalf("Decode changed % X to % X", head(before), head(b))
	}
}

// expectRefused checks that Decode returns an error and the zero control word.
func expectRefused(t *testing.T, b []byte, want api.Errno) {
	t.Helper()
	expectDecode(t, b, api.Clcw{}, want)
}

// expectDecoded checks that Decode answers as the chapter says, whatever b is.
func expectDecoded(t *testing.T, b []byte) {
	t.Helper()
	c, err := decoding(b)
	expectDecode(t, b, c, err)
}

// expectEncoded checks that c is valid and is encoded as want, and that it is decoded again.
func expectEncoded(t *testing.T, c api.Clcw, want ...byte) {
	t.Helper()
	if !clcw.Valid(c) {
		t.Fatalf("%+v is not valid", c)
	}
	if got, err := clcw.Encode(c); err != api.OK || !bytes.Equal(got, want) {
		t.Fatalf("Encode of %+v = % X, %d, want % X", c, got, err, want)
	}
	expectDecode(t, want, c, api.OK)
}

// expectInvalid checks that c is not valid and cannot be encoded.
func expectInvalid(t *testing.T, c api.Clcw) {
	t.Helper()
	if clcw.Valid(c) {
		t.Fatalf("%+v is valid", c)
	}
	if b, err := clcw.Encode(c); len(b) != 0 || err != api.ErrArg {
		t.Fatalf("Encode of %+v = % X, %d, want nothing, ErrArg", c, head(b), err)
	}
}

// expectAnswer checks that Valid and Encode answer as the chapter says, whatever c is.
func expectAnswer(t *testing.T, c api.Clcw) {
	t.Helper()
	if valid(c) {
		expectEncoded(t, c, encoding(c)...)
	} else {
		expectInvalid(t, c)
	}
}

// head returns the first bytes of b, which are enough for a message.
func head(b []byte) []byte { return b[:min(len(b), 16)] }

// withFlags returns c with each combination of Lockout, Wait and Retransmit.
func withFlags(c api.Clcw) []api.Clcw {
	var some []api.Clcw
	for _, c.Lockout = range []bool{false, true} {
		for _, c.Wait = range []bool{false, true} {
			for _, c.Retransmit = range []bool{false, true} {
				some = append(some, c)
			}
		}
	}
	return some
}

// P15.1, P15.2: the chapter's examples.
func TestExamples(t *testing.T) {
	expectEncoded(t, api.Clcw{Channel: 3, Wait: true, Bypass: 2, Next: 200}, 0x01, 0x0C, 0x14, 0xC8)
	expectEncoded(t, api.Clcw{}, 0x01, 0x00, 0x00, 0x00)
}

// P15.1, P15.2: control words whose bytes are written out: each field by itself, all of them at their greatest values, and
// mixed.
func TestWrittenOut(t *testing.T) {
	for _, c := range []struct {
		c    api.Clcw
		want []byte
	}{
		{api.Clcw{Channel: 1}, []byte{0x01, 0x04, 0x00, 0x00}},
		{api.Clcw{Channel: 2}, []byte{0x01, 0x08, 0x00, 0x00}},
		{api.Clcw{Channel: 4}, []byte{0x01, 0x10, 0x00, 0x00}},
		{api.Clcw{Channel: 7}, []byte{0x01, 0x1C, 0x00, 0x00}},
		{api.Clcw{Lockout: true}, []byte{0x01, 0x00, 0x20, 0x00}},
		{api.Clcw{Wait: true}, []byte{0x01, 0x00, 0x10, 0x00}},
		{api.Clcw{Retransmit: true}, []byte{0x01, 0x00, 0x08, 0x00}},
		{api.Clcw{Bypass: 1}, []byte{0x01, 0x00, 0x02, 0x00}},
		{api.Clcw{Bypass: 2}, []byte{0x01, 0x00, 0x04, 0x00}},
		{api.Clcw{Bypass: 3}, []byte{0x01, 0x00, 0x06, 0x00}},
		{api.Clcw{Next: 1}, []byte{0x01, 0x00, 0x00, 0x01}},
		{api.Clcw{Next: 128}, []byte{0x01, 0x00, 0x00, 0x80}},
		{api.Clcw{Next: 255}, []byte{0x01, 0x00, 0x00, 0xFF}},
		{api.Clcw{Channel: 7, Lockout: true, Wait: true, Retransmit: true, Bypass: 3, Next: 255}, []byte{0x01, 0x1C, 0x3E, 0xFF}},
		{api.Clcw{Channel: 5, Lockout: true, Retransmit: true, Bypass: 1, Next: 0x9C}, []byte{0x01, 0x14, 0x2A, 0x9C}},
		{api.Clcw{Channel: 6, Lockout: true, Wait: true, Next: 0x3A}, []byte{0x01, 0x18, 0x30, 0x3A}},
	} {
		expectEncoded(t, c.c, c.want...)
	}
}

// P15.1, P15.2, P15.3: every valid control word, with its bytes. No two of them have the same.
func TestEveryControlWord(t *testing.T) {
	seen := map[[4]byte]bool{}
	for channel := range 8 {
		for bypass := range 4 {
			for next := range 256 {
				for _, c := range withFlags(api.Clcw{Channel: channel, Bypass: bypass, Next: next}) {
					expectEncoded(t, c, encoding(c)...)
					seen[[4]byte(encoding(c))] = true
				}
			}
		}
	}
	if len(seen) != 8*8*4*256 {
		t.Fatalf("%d different encodings, want %d", len(seen), 8*8*4*256)
	}
}

// P15.1: each number at its least and at its greatest value, just outside of them, and far outside, with all flags.
func TestFields(t *testing.T) {
	for _, n := range edges(7) {
		for _, base := range []api.Clcw{{}, ordinary(), {Bypass: 3, Next: 255}} {
			base.Channel = n
			for _, c := range withFlags(base) {
				expectAnswer(t, c)
			}
		}
	}
	for _, n := range edges(3) {
		for _, base := range []api.Clcw{{}, ordinary(), {Channel: 7, Next: 255}} {
			base.Bypass = n
			for _, c := range withFlags(base) {
				expectAnswer(t, c)
			}
		}
	}
	for _, n := range edges(255) {
		for _, base := range []api.Clcw{{}, ordinary(), {Channel: 7, Bypass: 3}} {
			base.Next = n
			for _, c := range withFlags(base) {
				expectAnswer(t, c)
			}
		}
	}
}

// P15.1: the edges that the chapter names, without the model.
func TestEdges(t *testing.T) {
	for _, n := range []int{least, -1, 8, 63, 64, greatest} {
		expectInvalid(t, api.Clcw{Channel: n})
	}
	for _, n := range []int{least, -1, 4, greatest} {
		expectInvalid(t, api.Clcw{Bypass: n})
	}
	for _, n := range []int{least, -1, 256, greatest} {
		expectInvalid(t, api.Clcw{Next: n})
	}
}

// P15.1: control words that are not valid for several reasons, beside those that are for one, and for none.
func TestInvalidTogether(t *testing.T) {
	for _, channel := range []int{least, -1, 0, 7, 8, 63, 64, greatest} {
		for _, bypass := range []int{least, -1, 0, 3, 4, greatest} {
			for _, next := range []int{least, -1, 0, 255, 256, greatest} {
				for _, c := range withFlags(api.Clcw{Channel: channel, Bypass: bypass, Next: next}) {
					expectAnswer(t, c)
				}
			}
		}
	}
}

// P15.2: byte strings that are too short or too long, also those that begin or end like an encoding.
func TestDecodeLengths(t *testing.T) {
	expectRefused(t, nil, api.ErrShort)
	expectRefused(t, []byte{}, api.ErrShort)
	for _, c := range []api.Clcw{{}, ordinary(), {Channel: 7, Lockout: true, Wait: true, Retransmit: true, Bypass: 3, Next: 255}} {
		b := encoding(c)
		for size := range 4 {
			expectRefused(t, b[:size], api.ErrShort)
			expectRefused(t, b[4-size:], api.ErrShort)
		}
		expectDecode(t, b, c, api.OK)
		for _, more := range [][]byte{{0}, {1}, {0xFF}, {0, 0}, b, make([]byte, 60), make([]byte, 252), make([]byte, 65536)} {
			expectRefused(t, append(bytes.Clone(b), more...), api.ErrLong)
			expectRefused(t, append(bytes.Clone(more), b...), api.ErrLong)
		}
	}
}

// P15.2: the length comes before the form.
func TestDecodeOrder(t *testing.T) {
	for _, bad := range [][]byte{
		{0, 0, 0, 0}, {0x81, 0, 0, 0}, {0x21, 0, 0, 0}, {0x05, 0, 0, 0}, {2, 0, 0, 0}, {1, 0x20, 0, 0}, {1, 1, 0, 0}, {1, 0, 0x40, 0},
		{1, 0, 1, 0}, {0xFF, 0xFF, 0xFF, 0xFF},
	} {
		expectRefused(t, bad, api.ErrForm)
		for size := range 4 {
			expectRefused(t, bad[:size], api.ErrShort)
		}
		for _, more := range []int{1, 2, 4, 100} {
			expectRefused(t, append(bytes.Clone(bad), make([]byte, more)...), api.ErrLong)
		}
	}
}

// P15.2: each single reason for a wrong form.
func TestDecodeForm(t *testing.T) {
	for _, c := range []api.Clcw{
		{}, ordinary(), {Channel: 3, Wait: true, Bypass: 2, Next: 200},
		{Channel: 7, Lockout: true, Wait: true, Retransmit: true, Bypass: 3, Next: 255},
	} {
		expectDecode(t, stated(c).bytes(), c, api.OK)
		refuse := func(change func(f *fields)) {
			t.Helper()
			f := stated(c)
			change(&f)
			expectRefused(t, f.bytes(), api.ErrForm)
		}
		refuse(func(f *fields) { f.kind = 1 })
		for n := 1; n <= 3; n++ {
			refuse(func(f *fields) { f.version = n })
			refuse(func(f *fields) { f.spare1 = n })
			refuse(func(f *fields) { f.spare2 = n })
		}
		for n := 1; n <= 7; n++ {
			refuse(func(f *fields) { f.status = n })
		}
		for _, n := range []int{0, 2, 3} {
			refuse(func(f *fields) { f.procedure = n })
		}
		for n := 8; n <= 63; n++ {
			refuse(func(f *fields) { f.channel = n })
		}
		refuse(func(f *fields) { f.spare3 = 1 })
	}
}

// P15.2: several reasons for a wrong form together.
func TestDecodeFormTogether(t *testing.T) {
	for n := 1; n < 1<<9; n++ {
		f := stated(ordinary())
		f.kind, f.version, f.status = n&1, n>>1&1, n>>2&1*5
		f.procedure = 1 + n>>3&1
		f.channel += n >> 4 & 1 * 8
		f.spare1, f.spare2, f.spare3 = n>>5&1, n>>6&1*2, n>>7&1
		if n>>8 == 1 {
			f.channel, f.next = 63, 0xFF
		}
		expectRefused(t, f.bytes(), api.ErrForm)
	}
}

// P15.2, P15.3: all values of the first two bytes, and all of the last two, each with several values of the others.
func TestDecodeEveryByte(t *testing.T) {
	for _, rest := range [][2]byte{{0, 0}, {0x14, 0xC8}, {0x3E, 0xFF}, {0x01, 0}, {0x40, 1}, {0x80, 0x80}, {0xFF, 0xFF}} {
		for n := range 1 << 16 {
			expectDecoded(t, []byte{byte(n >> 8), byte(n), rest[0], rest[1]})
		}
	}
	for _, start := range [][2]byte{{1, 0}, {1, 0x0C}, {1, 0x1C}, {0, 0}, {1, 1}, {1, 2}, {1, 0x20}, {1, 0xFC}, {3, 4}, {0x81, 4}, {0xFF, 0xFF}} {
		for n := range 1 << 16 {
			expectDecoded(t, []byte{start[0], start[1], byte(n >> 8), byte(n)})
		}
	}
}

// P15.3: every byte string that is accepted is the encoding of what it is decoded to.
func TestDecodeEncode(t *testing.T) {
	accepted := 0
	for second := range 256 {
		for third := range 256 {
			for _, fourth := range []byte{0, 1, 0x7F, 0x80, 0xFF} {
				b := []byte{1, byte(second), byte(third), fourth}
				c, err := clcw.Decode(b)
				if err != api.OK {
					continue
				}
				accepted++
				expectEncoded(t, c, b...)
			}
		}
	}
	if accepted != 8*8*4*5 {
		t.Fatalf("%d byte strings are accepted, want %d", accepted, 8*8*4*5)
	}
}

// P15.1, P15.2, P15.3: control words and byte strings that follow no rule.
func TestPseudo(t *testing.T) {
	next := pseudo()
	for range 100000 {
		n := next()
		c := api.Clcw{Lockout: n&1 != 0, Wait: n&2 != 0, Retransmit: n&4 != 0}
		c.Channel = int(n>>3)%10 - 1
		c.Bypass = int(n>>10)%6 - 1
		c.Next = int(n>>20)%260 - 2
		expectAnswer(t, c)

		b := make([]byte, 4)
		if n>>30&15 == 0 {
			b = make([]byte, next()%10)
		}
		for i := range b {
			b[i] = byte(next())
		}
		expectDecoded(t, b)
		c.Channel, c.Bypass, c.Next = c.Channel&7, c.Bypass&3, c.Next&255
		b = encoding(c)
		// Sometimes, no bit is inverted.
		b[next()%4] ^= 1 << (next() % 9)
		expectDecoded(t, b)
	}
}

// P15.3: one wrong bit makes either no encoding or that of another control word.
func TestOneBit(t *testing.T) {
	for _, c := range []api.Clcw{{}, ordinary(), {Channel: 7, Lockout: true, Wait: true, Retransmit: true, Bypass: 3, Next: 255}} {
		for i := range 32 {
			b := encoding(c)
			b[i/8] ^= 0x80 >> (i % 8)
			expectDecoded(t, b)
			if d, err := clcw.Decode(b); err == api.OK && d == c {
				t.Fatalf("Decode(% X) = %+v, as without the wrong bit %d", b, d, i)
			}
		}
	}
}

// The rule Memory: no result shares memory with another one or with an argument.
func TestMemory(t *testing.T) {
	c := ordinary()
	first, _ := clcw.Encode(c)
	second, _ := clcw.Encode(c)
	kept := bytes.Clone(first)
	first = append(first, 0x99, 0x99, 0x99, 0x99)
	clear(first)
	if !bytes.Equal(second, kept) {
		t.Error("changing an encoding changed another one")
	}
	third, _ := clcw.Encode(c)
	if !bytes.Equal(third, kept) || c != ordinary() {
		t.Error("changing an encoding changed a later one, or the control word")
	}

	long := append(bytes.Clone(kept), 0x55, 0x66, 0x77)
	expectDecode(t, long[:4], c, api.OK)
	if !bytes.Equal(long, append(bytes.Clone(kept), 0x55, 0x66, 0x77)) {
		t.Errorf("Decode changed the bytes to % X", long)
	}
	d, _ := clcw.Decode(long[:4])
	clear(long)
	if d != ordinary() {
		t.Error("changing the bytes changed the decoded control word")
	}
}

// The rule Determinism: what was called before does not matter.
func TestIndependence(t *testing.T) {
	c := ordinary()
	want := encoding(c)
	expectEncoded(t, c, want...)
	expectInvalid(t, api.Clcw{Next: 256})
	expectRefused(t, []byte{0xFF, 0xFF, 0xFF, 0xFF}, api.ErrForm)
	expectRefused(t, want[:3], api.ErrShort)
	expectEncoded(t, api.Clcw{}, 1, 0, 0, 0)
	expectEncoded(t, c, want...)
}
