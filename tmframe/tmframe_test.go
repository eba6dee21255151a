package tmframe_test

import (
	"bytes"
	"fmt"
	"math"
	"testing"

	"spacecraft/api"
	"spacecraft/tmframe"
)

const (
	least    = math.MinInt
	greatest = math.MaxInt
	// most is the greatest number of bytes of Data.
	most = 1012
)

// pseudo returns numbers that follow no simple rule but are the same in every run.
func pseudo() func() uint64 {
	x := uint64(0x9E3779B97F4A7C15)
	return func() uint64 {
		x ^= x << 13
		x ^= x >> 7
		x ^= x << 17
		return x >> 20
	}
}

// someBytes returns size bytes that follow no rule.
func someBytes(next func() uint64, size int) []byte {
	b := make([]byte, size)
	for i := range b {
		b[i] = byte(next())
	}
	return b
}

// counting returns size bytes none of which is equal to its neighbours.
func counting(size int) []byte {
	b := make([]byte, size)
	for i := range b {
		b[i] = byte(i*7 + i/256 + 1)
	}
	return b
}

// ordinary returns a frame that is far from every edge.
func ordinary() api.TmFrame {
	return api.TmFrame{
		Craft: 0x2A5, Channel: 5, Master: 0x9C, Count: 0x3A, First: 1, Data: []byte{0xAA, 0xBB, 0xCC},
		Clcw: api.Clcw{Channel: 3, Wait: true, Bypass: 2, Next: 200},
	}
}

// lowest returns the valid frame all of whose numbers and bytes are 0.
func lowest() api.TmFrame { return api.TmFrame{Data: []byte{0}} }

// highest returns the valid frame all of whose numbers are the greatest ones, with size bytes of Data.
func highest(size int) api.TmFrame {
	return api.TmFrame{
		Craft: 1023, Channel: 7, Master: 255, Count: 255, First: 2047, Data: bytes.Repeat([]byte{0xFF}, size),
		Clcw: api.Clcw{Channel: 7, Lockout: true, Wait: true, Retransmit: true, Bypass: 3, Next: 255},
	}
}

// sized returns a frame with size bytes of Data.
func sized(size int) api.TmFrame {
	f := ordinary()
	f.Data = counting(size)
	return f
}

// clone returns f with data of its own.
func clone(f api.TmFrame) api.TmFrame {
	f.Data = bytes.Clone(f.Data)
	return f
}

func same(f, g api.TmFrame) bool {
	return f.Craft == g.Craft && f.Channel == g.Channel && f.Master == g.Master && f.Count == g.Count && f.First == g.First &&
		f.Clcw == g.Clcw && bytes.Equal(f.Data, g.Data)
}

// sum is the checksum of chapter 1, computed as the remainder of a division: two bytes of zeros follow the bytes, and the
// first two of all are inverted.
func sum(b []byte) int {
	long := append(bytes.Clone(b), 0, 0)
	long[0] ^= 0xFF
	long[1] ^= 0xFF
	remainder := 0
	for _, x := range long {
		for place := 128; place > 0; place /= 2 {
			remainder = 2*remainder + int(x)/place%2
			if remainder >= 65536 {
				remainder ^= 0x11021
			}
		}
	}
	return remainder
}

// summed returns b followed by the right checksum.
func summed(b ...byte) []byte {
	s := sum(b)
	return append(bytes.Clone(b), byte(s/256), byte(s%256))
}

// resummed returns b with its last two bytes replaced by the right checksum.
func resummed(b []byte) []byte { return summed(b[:len(b)-2]...) }

// unsummed returns b with a checksum that is wrong by one bit.
func unsummed(b []byte) []byte {
	c := resummed(b)
	c[len(c)-1] ^= 1
	return c
}

// valid is the chapter's definition, one condition after the other.
func valid(f api.TmFrame) bool {
	switch {
	case f.Craft < 0 || f.Craft >= 1024:
		return false
	case f.Channel < 0 || f.Channel >= 8:
		return false
	case f.Master < 0 || f.Master >= 256:
		return false
	case f.Count < 0 || f.Count >= 256:
		return false
	case f.First < 0 || f.First >= 2048:
		return false
	case len(f.Data) == 0 || len(f.Data) >= 1013:
		return false
	case f.Clcw.Channel < 0 || f.Clcw.Channel >= 8:
		return false
	case f.Clcw.Bypass < 0 || f.Clcw.Bypass >= 4:
		return false
	case f.Clcw.Next < 0 || f.Clcw.Next >= 256:
		return false
	}
	return true
}

// fields holds what the bytes of an encoding state, but for Data and the checksum, in their order. Those that begin with c are
// in the control word.
type fields struct {
	version, craft, channel, flag, master, count, status, first  int
	cType, cVersion, cStatus, cProcedure, cChannel, spare1       int
	spare2, cLockout, cWait, cRetransmit, cBypass, spare3, cNext int
}

// number is 1 for true and 0 for false.
func number(set bool) int {
	if set {
		return 1
	}
	return 0
}

// stated returns the fields of the encoding of f.
func stated(f api.TmFrame) fields {
	return fields{
		craft: f.Craft, channel: f.Channel, flag: 1, master: f.Master, count: f.Count, status: 3, first: f.First,
		cProcedure: 1, cChannel: f.Clcw.Channel,
		cLockout: number(f.Clcw.Lockout), cWait: number(f.Clcw.Wait), cRetransmit: number(f.Clcw.Retransmit),
		cBypass: f.Clcw.Bypass, cNext: f.Clcw.Next,
	}
}

// header computes the six bytes before Data with sums.
func (s fields) header() []byte {
	start := 16384*s.version + 16*s.craft + 2*s.channel + s.flag
	end := 2048*s.status + s.first
	return []byte{byte(start / 256), byte(start % 256), byte(s.master), byte(s.count), byte(end / 256), byte(end % 256)}
}

// control computes the four bytes of the control word with sums.
func (s fields) control() []byte {
	return []byte{
		byte(128*s.cType + 32*s.cVersion + 4*s.cStatus + s.cProcedure),
		byte(4*s.cChannel + s.spare1),
		byte(64*s.spare2 + 32*s.cLockout + 16*s.cWait + 8*s.cRetransmit + 2*s.cBypass + s.spare3),
		byte(s.cNext),
	}
}

// with returns the header, data, the control word and the right checksum.
func (s fields) with(data ...byte) []byte {
	b := append(s.header(), data...)
	return summed(append(b, s.control()...)...)
}

// encoding is the chapter's encoding of a valid frame.
func encoding(f api.TmFrame) []byte { return stated(f).with(f.Data...) }

// decoding is P18.2, computed with quotients.
func decoding(b []byte) (api.TmFrame, api.Errno) {
	n := len(b)
	switch {
	case n < 13:
		return api.TmFrame{}, api.ErrShort
	case n > 1024:
		return api.TmFrame{}, api.ErrLong
	case sum(b[:n-2]) != 256*int(b[n-2])+int(b[n-1]):
		return api.TmFrame{}, api.ErrSum
	}
	start, end, c := 256*int(b[0])+int(b[1]), 256*int(b[4])+int(b[5]), b[n-6:n-2]
	if start/16384 != 0 || start%2 != 1 || end/2048 != 3 {
		return api.TmFrame{}, api.ErrForm
	}
	if c[0] != 1 || c[1] > 28 || c[1]%4 != 0 || c[2] >= 64 || c[2]%2 != 0 {
		return api.TmFrame{}, api.ErrForm
	}
	return api.TmFrame{
		Craft:   start / 16,
		Channel: start / 2 % 8,
		Master:  int(b[2]),
		Count:   int(b[3]),
		First:   end % 2048,
		Data:    b[6 : n-6],
		Clcw: api.Clcw{
			Channel:    int(c[1]) / 4,
			Lockout:    c[2]/32 == 1,
			Wait:       c[2]/16%2 == 1,
			Retransmit: c[2]/8%2 == 1,
			Bypass:     int(c[2]) / 2 % 4,
			Next:       int(c[3]),
		},
	}, api.OK
}

// expectDecode checks the answer of Decode, and that b stays as it is.
func expectDecode(t *testing.T, b []byte, want api.TmFrame, wantErr api.Errno) {
	t.Helper()
	before := bytes.Clone(b)
	got, err := tmframe.Decode(b)
	if !same(got, want) || err != wantErr {
		t.Fatalf("Decode(% X), of %d bytes, = %s, %d, want %s, %d", head(b), len(b), show(got), err, show(want), wantErr)
	}
	if !bytes.Equal(b, before) {
		t.Fatalf("Decode changed % X to % X", head(before), head(b))
	}
}

// expectRefused checks that Decode returns an error and the zero frame.
func expectRefused(t *testing.T, b []byte, want api.Errno) {
	t.Helper()
	expectDecode(t, b, api.TmFrame{}, want)
}

// expectDecoded checks that Decode answers as the chapter says, whatever b is.
func expectDecoded(t *testing.T, b []byte) {
	t.Helper()
	f, err := decoding(b)
	expectDecode(t, b, f, err)
}

// expectEncoded checks that f is valid and is encoded as want, that it stays as it is, and that it is decoded again.
func expectEncoded(t *testing.T, f api.TmFrame, want []byte) {
	t.Helper()
	before := clone(f)
	if !tmframe.Valid(f) {
		t.Fatalf("%s is not valid", show(f))
	}
	got, err := tmframe.Encode(f)
	if err != api.OK || !bytes.Equal(got, want) {
		t.Fatalf("Encode of %s = % X, %d, want % X", show(f), got, err, want)
	}
	if !same(f, before) {
		t.Fatalf("Encode changed %s to %s", show(before), show(f))
	}
	expectDecode(t, want, f, api.OK)
}

// expectValid checks that f is valid and is encoded and decoded as the chapter says.
func expectValid(t *testing.T, f api.TmFrame) {
	t.Helper()
	expectEncoded(t, f, encoding(f))
}

// expectInvalid checks that f is not valid and cannot be encoded, and that it stays as it is.
func expectInvalid(t *testing.T, f api.TmFrame) {
	t.Helper()
	before := clone(f)
	if tmframe.Valid(f) {
		t.Fatalf("%s is valid", show(f))
	}
	if b, err := tmframe.Encode(f); len(b) != 0 || err != api.ErrArg {
		t.Fatalf("Encode of %s = % X, %d, want nothing, ErrArg", show(f), head(b), err)
	}
	if !same(f, before) {
		t.Fatalf("%s became %s", show(before), show(f))
	}
}

// expectAnswer checks that Valid and Encode answer as the chapter says, whatever f is. It reports whether f is valid.
func expectAnswer(t *testing.T, f api.TmFrame) bool {
	t.Helper()
	if !valid(f) {
		expectInvalid(t, f)
		return false
	}
	expectValid(t, f)
	return true
}

// head returns the first bytes of b, which are enough for a message.
func head(b []byte) []byte { return b[:min(len(b), 16)] }

func show(f api.TmFrame) string {
	return fmt.Sprintf("{Craft %d, Channel %d, Master %d, Count %d, First %d, %d bytes: % X, Clcw %+v}",
		f.Craft, f.Channel, f.Master, f.Count, f.First, len(f.Data), head(f.Data), f.Clcw)
}

// part is a number of a frame, with its greatest value.
type part struct {
	name     string
	greatest int
	set      func(f *api.TmFrame, n int)
}

// parts returns all numbers of a frame, also those of its control word.
func parts() []part {
	return []part{
		{"Craft", 1023, func(f *api.TmFrame, n int) { f.Craft = n }},
		{"Channel", 7, func(f *api.TmFrame, n int) { f.Channel = n }},
		{"Master", 255, func(f *api.TmFrame, n int) { f.Master = n }},
		{"Count", 255, func(f *api.TmFrame, n int) { f.Count = n }},
		{"First", 2047, func(f *api.TmFrame, n int) { f.First = n }},
		{"Clcw.Channel", 7, func(f *api.TmFrame, n int) { f.Clcw.Channel = n }},
		{"Clcw.Bypass", 3, func(f *api.TmFrame, n int) { f.Clcw.Bypass = n }},
		{"Clcw.Next", 255, func(f *api.TmFrame, n int) { f.Clcw.Next = n }},
	}
}

// P18.1: the package's constants, and that Overhead is the number of bytes of an encoding besides its data.
func TestConstants(t *testing.T) {
	if tmframe.Overhead != 12 || tmframe.NoPacket != 2047 || tmframe.Idle != 2046 {
		t.Errorf("Overhead %d, NoPacket %d, Idle %d, want 12, 2047, 2046", tmframe.Overhead, tmframe.NoPacket, tmframe.Idle)
	}
	for _, size := range []int{1, 2, 100, most} {
		if b, _ := tmframe.Encode(sized(size)); len(b) != size+tmframe.Overhead {
			t.Errorf("%d bytes of an encoding with %d bytes of data", len(b), size)
		}
	}
}

// P18.1, P18.2, P18.3: the chapter's examples, with the bytes of the checksum.
func TestExamples(t *testing.T) {
	f := api.TmFrame{Craft: 5, Channel: 1, Master: 2, Count: 3, First: 0, Data: []byte{0xAA}}
	expectEncoded(t, f, []byte{0x00, 0x53, 0x02, 0x03, 0x18, 0x00, 0xAA, 0x01, 0x00, 0x00, 0x00, 0x33, 0xF6})
	f.Data = nil
	expectInvalid(t, f)
	f.Data = make([]byte, 1013)
	expectInvalid(t, f)
}

// P18.1, P18.2: frames whose bytes are written out: each field by itself while all others are 0, all of them at their greatest
// values, and mixed.
func TestWrittenOut(t *testing.T) {
	for _, c := range []struct {
		change func(f *api.TmFrame)
		want   []byte
	}{
		{func(f *api.TmFrame) {}, []byte{0, 1, 0, 0, 0x18, 0, 0, 1, 0, 0, 0, 0x69, 0x28}},
		{func(f *api.TmFrame) { f.Craft = 1 }, []byte{0, 0x11, 0, 0, 0x18, 0, 0, 1, 0, 0, 0, 0xFD, 0xBE}},
		{func(f *api.TmFrame) { f.Craft = 512 }, []byte{0x20, 1, 0, 0, 0x18, 0, 0, 1, 0, 0, 0, 0xC3, 0x52}},
		{func(f *api.TmFrame) { f.Craft = 1023 }, []byte{0x3F, 0xF1, 0, 0, 0x18, 0, 0, 1, 0, 0, 0, 0x26, 0xE9}},
		{func(f *api.TmFrame) { f.Channel = 1 }, []byte{0, 3, 0, 0, 0x18, 0, 0, 1, 0, 0, 0, 0xB7, 0xA2}},
		{func(f *api.TmFrame) { f.Channel = 4 }, []byte{0, 9, 0, 0, 0x18, 0, 0, 1, 0, 0, 0, 0x23, 0x63}},
		{func(f *api.TmFrame) { f.Channel = 7 }, []byte{0, 0x0F, 0, 0, 0x18, 0, 0, 1, 0, 0, 0, 0x50, 0xDC}},
		{func(f *api.TmFrame) { f.Master = 1 }, []byte{0, 1, 1, 0, 0x18, 0, 0, 1, 0, 0, 0, 0x82, 0x0B}},
		{func(f *api.TmFrame) { f.Master = 128 }, []byte{0, 1, 0x80, 0, 0x18, 0, 0, 1, 0, 0, 0, 0xD6, 0x9A}},
		{func(f *api.TmFrame) { f.Master = 255 }, []byte{0, 1, 0xFF, 0, 0x18, 0, 0, 1, 0, 0, 0, 0xE5, 0x15}},
		{func(f *api.TmFrame) { f.Count = 1 }, []byte{0, 1, 0, 1, 0x18, 0, 0, 1, 0, 0, 0, 0x2E, 0xFB}},
		{func(f *api.TmFrame) { f.Count = 128 }, []byte{0, 1, 0, 0x80, 0x18, 0, 0, 1, 0, 0, 0, 0x94, 0xA9}},
		{func(f *api.TmFrame) { f.Count = 255 }, []byte{0, 1, 0, 0xFF, 0x18, 0, 0, 1, 0, 0, 0, 0xFD, 0x67}},
		{func(f *api.TmFrame) { f.First = 1 }, []byte{0, 1, 0, 0, 0x18, 1, 0, 1, 0, 0, 0, 0x2C, 0x88}},
		{func(f *api.TmFrame) { f.First = 1024 }, []byte{0, 1, 0, 0, 0x1C, 0, 0, 1, 0, 0, 0, 0xA8, 0xEE}},
		{func(f *api.TmFrame) { f.First = tmframe.Idle }, []byte{0, 1, 0, 0, 0x1F, 0xFE, 0, 1, 0, 0, 0, 0x61, 0x73}},
		{func(f *api.TmFrame) { f.First = tmframe.NoPacket }, []byte{0, 1, 0, 0, 0x1F, 0xFF, 0, 1, 0, 0, 0, 0x24, 0xD3}},
		{func(f *api.TmFrame) { f.Data[0] = 0xFF }, []byte{0, 1, 0, 0, 0x18, 0, 0xFF, 1, 0, 0, 0, 0x33, 0x87}},
		{func(f *api.TmFrame) { f.Clcw.Channel = 1 }, []byte{0, 1, 0, 0, 0x18, 0, 0, 1, 4, 0, 0, 0xB5, 0xE8}},
		{func(f *api.TmFrame) { f.Clcw.Channel = 7 }, []byte{0, 1, 0, 0, 0x18, 0, 0, 1, 0x1C, 0, 0, 0x5F, 0x2A}},
		{func(f *api.TmFrame) { f.Clcw.Lockout = true }, []byte{0, 1, 0, 0, 0x18, 0, 0, 1, 0, 0x20, 0, 0x6F, 0xCE}},
		{func(f *api.TmFrame) { f.Clcw.Wait = true }, []byte{0, 1, 0, 0, 0x18, 0, 0, 1, 0, 0x10, 0, 0x6A, 0x5B}},
		{func(f *api.TmFrame) { f.Clcw.Retransmit = true }, []byte{0, 1, 0, 0, 0x18, 0, 0, 1, 0, 8, 0, 0xE0, 0x81}},
		{func(f *api.TmFrame) { f.Clcw.Bypass = 1 }, []byte{0, 1, 0, 0, 0x18, 0, 0, 1, 0, 2, 0, 0x0F, 0x4A}},
		{func(f *api.TmFrame) { f.Clcw.Bypass = 3 }, []byte{0, 1, 0, 0, 0x18, 0, 0, 1, 0, 6, 0, 0xC3, 0x8E}},
		{func(f *api.TmFrame) { f.Clcw.Next = 1 }, []byte{0, 1, 0, 0, 0x18, 0, 0, 1, 0, 0, 1, 0x79, 0x09}},
		{func(f *api.TmFrame) { f.Clcw.Next = 255 }, []byte{0, 1, 0, 0, 0x18, 0, 0, 1, 0, 0, 0xFF, 0x77, 0xD8}},
		{
			func(f *api.TmFrame) { *f = highest(1) },
			[]byte{0x3F, 0xFF, 0xFF, 0xFF, 0x1F, 0xFF, 0xFF, 1, 0x1C, 0x3E, 0xFF, 0x1E, 0x53},
		},
		{
			func(f *api.TmFrame) {
				*f = ordinary()
				f.Channel, f.First, f.Data = 6, 0x123, []byte{0xDE, 0xAD, 0xBE}
			},
			[]byte{0x2A, 0x5D, 0x9C, 0x3A, 0x19, 0x23, 0xDE, 0xAD, 0xBE, 1, 0x0C, 0x14, 0xC8, 0xE6, 0xE7},
		},
	} {
		f := lowest()
		c.change(&f)
		expectEncoded(t, f, c.want)
	}
}

// P18.1, P18.2: longer frames, of which all but the data is written out.
func TestWrittenOutLong(t *testing.T) {
	for _, c := range []struct{ size, fifth, sixth, sum1, sum2 int }{
		{2, 0x18, 2, 0xAA, 0x86}, {244, 0x18, 0xF4, 0x0C, 0x6F}, {500, 0x19, 0xF4, 0x3F, 0xC7},
		{most - 1, 0x1B, 0xF3, 0xD2, 0xD3}, {most, 0x1B, 0xF4, 0x3A, 0x30},
	} {
		f := api.TmFrame{
			Craft: 3, Channel: 2, Master: 77, Count: 78, First: c.size, Data: counting(c.size),
			Clcw: api.Clcw{Channel: 4, Retransmit: true, Bypass: 1, Next: 5},
		}
		want := append([]byte{0x00, 0x35, 0x4D, 0x4E, byte(c.fifth), byte(c.sixth)}, f.Data...)
		expectEncoded(t, f, append(want, 0x01, 0x10, 0x0A, 0x05, byte(c.sum1), byte(c.sum2)))
	}
	want := append([]byte{0x00, 0x01, 0x00, 0x00, 0x18, 0x00}, make([]byte, most)...)
	expectEncoded(t, api.TmFrame{Data: make([]byte, most)}, append(want, 0x01, 0x00, 0x00, 0x00, 0x01, 0x43))
	f := highest(most)
	want = append([]byte{0x3F, 0xFF, 0xFF, 0xFF, 0x1F, 0xFF}, f.Data...)
	expectEncoded(t, f, append(want, 0x01, 0x1C, 0x3E, 0xFF, 0x51, 0x7C))
}

// P18.1, P18.2, P18.3: frames on every channel, with short and long data, in which a packet begins at their first byte, at a
// later one, or at none, and frames without packet data.
func TestOrdinary(t *testing.T) {
	for channel := range 8 {
		for _, size := range []int{1, 2, 3, 10, 255, 256, 257, 512, most - 1, most} {
			for _, first := range []int{0, 1, 2, size / 2, size - 1, tmframe.Idle, tmframe.NoPacket} {
				f := sized(size)
				f.Craft, f.Channel, f.First = 100*channel, channel, first
				f.Master, f.Count = size%256, (size+channel)%256
				expectValid(t, f)
			}
		}
	}
}

// P18.1, P18.2, P18.3: every value of every number, and every number of bytes of Data.
func TestEveryValue(t *testing.T) {
	for _, base := range []api.TmFrame{lowest(), ordinary(), highest(2)} {
		for _, p := range parts() {
			f := clone(base)
			for n := range p.greatest + 1 {
				p.set(&f, n)
				expectValid(t, f)
			}
		}
	}
	for size := 1; size <= most; size++ {
		expectValid(t, sized(size))
	}
}

// P18.1, P18.2, P18.3: every control word, with its bytes.
func TestEveryControlWord(t *testing.T) {
	f := ordinary()
	for n := range 8 * 8 * 4 * 256 {
		f.Clcw = api.Clcw{
			Lockout: n&1 != 0, Wait: n&2 != 0, Retransmit: n&4 != 0, Channel: n >> 3 & 7, Bypass: n >> 6 & 3, Next: n >> 8,
		}
		expectValid(t, f)
	}
}

// P18.1: each number at its least and at its greatest value, just outside of them, and far outside.
func TestParts(t *testing.T) {
	for _, base := range []api.TmFrame{lowest(), ordinary(), highest(3)} {
		for _, p := range parts() {
			f := clone(base)
			for _, n := range []int{0, 1, p.greatest - 1, p.greatest} {
				p.set(&f, n)
				expectValid(t, f)
			}
			// Some of these have the bits of a value that is permitted, and more.
			for _, n := range []int{
				least, least + 1, -1 << 32, -65536, -2048, -1024, -256, -64, -8, -4, -2, -1,
				p.greatest + 1, p.greatest + 2, 2*p.greatest + 1, 2*p.greatest + 2,
				1 << 16, 1<<16 + 1, 1 << 32, 1<<32 + 1, greatest - 1, greatest,
			} {
				p.set(&f, n)
				expectInvalid(t, f)
			}
		}
	}
}

// P18.1: the edges of each number, without the model.
func TestEdges(t *testing.T) {
	edges := map[string]struct{ valid, invalid []int }{
		"Craft":        {[]int{0, 1, 1022, 1023}, []int{least, -1, 1024, greatest}},
		"Channel":      {[]int{0, 7}, []int{least, -1, 8, greatest}},
		"Master":       {[]int{0, 255}, []int{least, -1, 256, greatest}},
		"Count":        {[]int{0, 255}, []int{least, -1, 256, greatest}},
		"First":        {[]int{0, 1, 1011, 1012, 2045, 2046, 2047}, []int{least, -1, 2048, greatest}},
		"Clcw.Channel": {[]int{0, 7}, []int{least, -1, 8, greatest}},
		"Clcw.Bypass":  {[]int{0, 3}, []int{least, -1, 4, greatest}},
		"Clcw.Next":    {[]int{0, 255}, []int{least, -1, 256, greatest}},
	}
	for _, p := range parts() {
		f := ordinary()
		for _, n := range edges[p.name].valid {
			p.set(&f, n)
			if _, err := tmframe.Encode(f); !tmframe.Valid(f) || err != api.OK {
				t.Errorf("%s %d is not valid: %d", p.name, n, err)
			}
		}
		for _, n := range edges[p.name].invalid {
			p.set(&f, n)
			if b, err := tmframe.Encode(f); tmframe.Valid(f) || len(b) != 0 || err != api.ErrArg {
				t.Errorf("%s %d is valid: % X, %d", p.name, n, head(b), err)
			}
		}
	}
}

// P18.1: First is not compared with the length of Data.
func TestFirstBeyondData(t *testing.T) {
	for _, size := range []int{1, 2, 3, 1010, most - 1, most} {
		f := sized(size)
		for _, first := range []int{0, 1, 2, 3, 1010, 1011, 1012, 1013, 2045, tmframe.Idle, tmframe.NoPacket} {
			f.First = first
			expectValid(t, f)
		}
		for _, first := range []int{least, -1, 2048, greatest} {
			f.First = first
			expectInvalid(t, f)
		}
	}
}

// P18.1: the numbers of bytes of Data.
func TestDataSizes(t *testing.T) {
	f := ordinary()
	for _, size := range []int{1, 2, most - 1, most} {
		f.Data = counting(size)
		expectValid(t, f)
		f.Data = make([]byte, size)
		expectValid(t, f)
	}
	for _, data := range [][]byte{
		nil, {}, counting(most)[:0], counting(most + 1), make([]byte, most+1), counting(1024), counting(1025), counting(1 << 16), counting(1<<16 + 1),
	} {
		f.Data = data
		expectInvalid(t, f)
	}
}

// P18.1: the flags of the control word do not matter, neither if its numbers are valid nor if one of them is not.
func TestControlFlags(t *testing.T) {
	for n := range 8 {
		f := ordinary()
		f.Clcw.Lockout, f.Clcw.Wait, f.Clcw.Retransmit = n&1 != 0, n&2 != 0, n&4 != 0
		expectValid(t, f)
		for _, c := range []api.Clcw{{Channel: -1}, {Channel: 8}, {Bypass: -1}, {Bypass: 4}, {Next: -1}, {Next: 256}} {
			g := f
			g.Clcw.Channel, g.Clcw.Bypass, g.Clcw.Next = c.Channel, c.Bypass, c.Next
			expectInvalid(t, g)
		}
	}
}

// P18.1: frames that are not valid for several reasons, beside those that are for one, and for none.
func TestInvalidTogether(t *testing.T) {
	// Each of the numbers is in the middle, one too small or one too great, and so is the number of bytes of Data.
	for n := range 3 * 3 * 3 * 3 * 3 * 3 * 3 * 3 * 3 {
		f := ordinary()
		for _, p := range parts() {
			switch n % 3 {
			case 1:
				p.set(&f, -1)
			case 2:
				p.set(&f, p.greatest+1)
			}
			n /= 3
		}
		switch n {
		case 1:
			f.Data = nil
		case 2:
			f.Data = counting(most + 1)
		}
		expectAnswer(t, f)
	}
	expectInvalid(t, api.TmFrame{})
	for _, n := range []int{least, greatest} {
		f := api.TmFrame{Data: counting(2000)}
		for _, p := range parts() {
			p.set(&f, n)
		}
		expectInvalid(t, f)
	}
}

// P18.2: byte strings of the least and the greatest lengths, and just outside of them, with right and wrong checksums. The
// lengths come before the checksum.
func TestDecodeLengths(t *testing.T) {
	expectRefused(t, nil, api.ErrShort)
	expectRefused(t, []byte{}, api.ErrShort)
	for size := range 13 {
		expectRefused(t, make([]byte, size), api.ErrShort)
		expectRefused(t, counting(size), api.ErrShort)
		if size >= 4 {
			expectRefused(t, resummed(counting(size)), api.ErrShort)
			expectRefused(t, unsummed(counting(size)), api.ErrShort)
		}
	}
	// An encoding but for the missing Data.
	expectRefused(t, stated(ordinary()).with(), api.ErrShort)
	expectRefused(t, unsummed(stated(ordinary()).with()), api.ErrShort)

	for _, size := range []int{13, 14, 15, 1022, 1023, 1024} {
		b := stated(ordinary()).with(counting(size - 12)...)
		if len(b) != size {
			t.Fatalf("%d bytes instead of %d", len(b), size)
		}
		expectDecode(t, b, sized(size-12), api.OK)
		expectRefused(t, unsummed(b), api.ErrSum)
	}
	for _, size := range []int{1025, 1026, 1037, 2048, 2061, 65536, 65549} {
		b := stated(ordinary()).with(counting(size - 12)...)
		expectRefused(t, b, api.ErrLong)
		expectRefused(t, unsummed(b), api.ErrLong)
		expectRefused(t, make([]byte, size), api.ErrLong)
	}
}

// P18.2: the length comes before the form.
func TestDecodeLengthBeforeForm(t *testing.T) {
	s := stated(ordinary())
	s.version, s.flag, s.status, s.cProcedure = 3, 0, 0, 0
	for _, b := range [][]byte{s.with(), unsummed(s.with()), s.with()[:11]} {
		expectRefused(t, b, api.ErrShort)
	}
	long := s.with(counting(most + 1)...)
	for _, b := range [][]byte{long, unsummed(long), append(long, 0)} {
		expectRefused(t, b, api.ErrLong)
	}
	for _, size := range []int{1, most} {
		b := s.with(counting(size)...)
		expectRefused(t, b, api.ErrForm)
		expectRefused(t, unsummed(b), api.ErrSum)
	}
}

// P18.2: only the right checksum is accepted, and it comes before the form.
func TestDecodeSum(t *testing.T) {
	bad := stated(ordinary())
	bad.version = 1
	for _, c := range []struct {
		b       []byte
		f       api.TmFrame
		wantErr api.Errno
	}{
		{encoding(ordinary()), ordinary(), api.OK},
		{bad.with(0xAA, 0xBB, 0xCC), api.TmFrame{}, api.ErrForm},
	} {
		n := len(c.b)
		right := 256*int(c.b[n-2]) + int(c.b[n-1])
		for s := range 1 << 16 {
			c.b[n-2], c.b[n-1] = byte(s>>8), byte(s)
			if s == right {
				expectDecode(t, c.b, c.f, c.wantErr)
			} else {
				expectRefused(t, c.b, api.ErrSum)
			}
		}
	}
	swapped := encoding(ordinary())
	n := len(swapped)
	swapped[n-2], swapped[n-1] = swapped[n-1], swapped[n-2]
	expectRefused(t, swapped, api.ErrSum)
	for _, size := range []int{13, 14, 1023, 1024} {
		expectRefused(t, make([]byte, size), api.ErrSum)
		expectRefused(t, bytes.Repeat([]byte{0xFF}, size), api.ErrSum)
	}
}

// wrongForms returns changes each of which is a single reason for a wrong form.
func wrongForms() []func(s *fields) {
	var all []func(s *fields)
	for n := 1; n <= 3; n++ {
		all = append(all,
			func(s *fields) { s.version = n }, func(s *fields) { s.cVersion = n }, func(s *fields) { s.spare1 = n }, func(s *fields) { s.spare2 = n })
	}
	all = append(all, func(s *fields) { s.flag = 0 }, func(s *fields) { s.cType = 1 }, func(s *fields) { s.spare3 = 1 })
	for n := range 32 {
		// This has each of the bits 00011 inverted.
		if n != 3 {
			all = append(all, func(s *fields) { s.status = n })
		}
	}
	for n := 1; n <= 7; n++ {
		all = append(all, func(s *fields) { s.cStatus = n })
	}
	for _, n := range []int{0, 2, 3} {
		all = append(all, func(s *fields) { s.cProcedure = n })
	}
	for n := 8; n <= 63; n++ {
		all = append(all, func(s *fields) { s.cChannel = n })
	}
	return all
}

// P18.2: each single reason for a wrong form, in short and in long byte strings whose checksum is right. With a wrong checksum,
// or with another length, they are refused for that.
func TestDecodeForm(t *testing.T) {
	for _, f := range []api.TmFrame{lowest(), ordinary(), highest(1), sized(255), sized(most - 1), sized(most), highest(most)} {
		expectDecode(t, stated(f).with(f.Data...), f, api.OK)
		for _, change := range wrongForms() {
			s := stated(f)
			change(&s)
			b := s.with(f.Data...)
			expectRefused(t, b, api.ErrForm)
			expectRefused(t, unsummed(b), api.ErrSum)
			expectRefused(t, s.with(), api.ErrShort)
		}
	}
}

// P18.2: several reasons for a wrong form together: each pair of them, and all of them.
func TestDecodeFormTogether(t *testing.T) {
	all := wrongForms()
	for _, f := range []api.TmFrame{lowest(), ordinary(), highest(2)} {
		for i, one := range all {
			for _, other := range all[:i] {
				s := stated(f)
				one(&s)
				other(&s)
				expectRefused(t, s.with(f.Data...), api.ErrForm)
			}
		}
		s := stated(f)
		for _, change := range all {
			change(&s)
		}
		expectRefused(t, s.with(f.Data...), api.ErrForm)
	}
}

// P18.2, P18.3: all values of each two neighbouring bytes of the header and of the control word, with several values of the
// others.
func TestDecodeEveryByte(t *testing.T) {
	wrong := stated(ordinary())
	wrong.flag, wrong.cProcedure = 0, 0
	for _, b := range [][]byte{encoding(lowest()), encoding(ordinary()), encoding(highest(1)), wrong.with(1, 2)} {
		// What follows the header, from its end, is the control word and the checksum.
		n := len(b) - 6
		for _, at := range []int{0, 2, 4, n, n + 1, n + 2} {
			c := bytes.Clone(b)
			for v := range 1 << 16 {
				c[at], c[at+1] = byte(v>>8), byte(v)
				expectDecoded(t, resummed(c))
			}
		}
	}
}

// P18.2, P18.3: what is missing changes the place of the control word. What follows does, too, even if it leaves the checksum
// right, as zeros do.
func TestDecodeOtherLength(t *testing.T) {
	for _, f := range []api.TmFrame{lowest(), ordinary(), highest(4), sized(100), sized(most - 7)} {
		b := encoding(f)
		for more := 1; more <= 7; more++ {
			expectRefused(t, append(bytes.Clone(b), bytes.Repeat([]byte{1}, more)...), api.ErrSum)
			expectDecoded(t, append(bytes.Clone(b), make([]byte, more)...))
		}
		expectRefused(t, append(bytes.Clone(b), 0), api.ErrForm)
		expectRefused(t, summed(b...), api.ErrForm)
		for size := range len(b) {
			expectDecoded(t, b[:size])
			expectDecoded(t, b[size:])
		}
	}
	b := encoding(sized(100))
	expectRefused(t, b[:len(b)-1], api.ErrSum)
	expectRefused(t, resummed(b[:len(b)-1]), api.ErrForm)
	// Bytes between the header and the control word are data, whatever they are.
	expectDecode(t, summed(append(b[:len(b)-2:len(b)-2], 1, 0, 0, 9)...), api.TmFrame{
		Craft: 0x2A5, Channel: 5, Master: 0x9C, Count: 0x3A, First: 1, Data: append(counting(100), 0x01, 0x0C, 0x14, 0xC8),
		Clcw: api.Clcw{Next: 9},
	}, api.OK)
}

// P18.4: each single inverted bit of encodings of the least, of a middle and of the greatest length, and of all the short ones.
func TestOneBit(t *testing.T) {
	all := []api.TmFrame{lowest(), ordinary(), highest(1), sized(500), highest(499), sized(most), highest(most), {Data: make([]byte, most)}}
	for size := 1; size <= 40; size++ {
		all = append(all, sized(size))
	}
	for _, f := range all {
		b := encoding(f)
		for i := range 8 * len(b) {
			b[i/8] ^= 0x80 >> (i % 8)
			expectRefused(t, b, api.ErrSum)
			b[i/8] ^= 0x80 >> (i % 8)
		}
		expectDecode(t, b, f, api.OK)
	}
}

// P18.4: the same with what Encode returns, and with frames chosen without a rule.
func TestOneBitEncoded(t *testing.T) {
	next := pseudo()
	for range 300 {
		f := someFrame(next)
		if !valid(f) {
			continue
		}
		b, err := tmframe.Encode(f)
		if err != api.OK {
			t.Fatalf("Encode of %s: %d", show(f), err)
		}
		for range 200 {
			at, bit := next()%uint64(len(b)), byte(1)<<(next()%8)
			b[at] ^= bit
			expectRefused(t, b, api.ErrSum)
			b[at] ^= bit
		}
	}
}

// someNumber returns a number that is mostly from 0 to greatest, and sometimes outside.
func someNumber(next func() uint64, greatest int) int {
	n := int(next() % uint64(greatest+1))
	switch next() % 32 {
	case 0:
		return -1 - n
	case 1:
		return greatest + 1 + n
	}
	return n
}

// someFrame returns a frame that follows no rule and is often valid.
func someFrame(next func() uint64) api.TmFrame {
	size := int(next() % 40)
	if next()%20 == 0 {
		size = int(next() % 1030)
	}
	n := next()
	f := api.TmFrame{
		Data: someBytes(next, size),
		Clcw: api.Clcw{Lockout: n&1 != 0, Wait: n&2 != 0, Retransmit: n&4 != 0},
	}
	for _, p := range parts() {
		p.set(&f, someNumber(next, p.greatest))
	}
	return f
}

// P18.1, P18.2, P18.3: frames chosen without a rule, encoded and read back.
func TestRandomFrames(t *testing.T) {
	next := pseudo()
	accepted, rejected := 0, 0
	for range 20000 {
		if expectAnswer(t, someFrame(next)) {
			accepted++
		} else {
			rejected++
		}
	}
	if accepted < 1000 || rejected < 1000 {
		t.Errorf("%d valid frames and %d others: too few of one kind", accepted, rejected)
	}
}

// expectOnlyEncodings checks that Decode answers as the chapter says, and that what it accepts is the encoding of the frame
// that it returns, which is valid. It reports whether b was accepted.
func expectOnlyEncodings(t *testing.T, b []byte) bool {
	t.Helper()
	expectDecoded(t, b)
	f, err := tmframe.Decode(b)
	if err != api.OK {
		return false
	}
	if again, err := tmframe.Encode(f); !tmframe.Valid(f) || err != api.OK || !bytes.Equal(again, b) {
		t.Fatalf("% X is decoded as %s, which is encoded as % X, %d", b, show(f), again, err)
	}
	return true
}

// P18.2, P18.3: byte strings chosen without a rule, with any checksum and with the right one, also with the right form of the
// header, of the control word, and of both.
func TestRandomBytes(t *testing.T) {
	next := pseudo()
	accepted := 0
	for range 30000 {
		size := int(next() % 40)
		if next()%20 == 0 {
			size = int(next() % 1040)
		}
		b := someBytes(next, size)
		expectOnlyEncodings(t, b)
		if size < 11 {
			continue
		}
		expectOnlyEncodings(t, summed(b...))
		c := bytes.Clone(b)
		control := c[size-4:]
		control[0], control[1], control[2] = 1, control[1]&0x1C, control[2]&0x3E
		expectOnlyEncodings(t, summed(c...))
		for _, d := range [][]byte{b, c} {
			d[0], d[1], d[4] = d[0]&0x3F, d[1]|1, d[4]&7|0x18
			if expectOnlyEncodings(t, summed(d...)) {
				accepted++
			}
		}
	}
	if accepted < 1000 {
		t.Errorf("only %d of the byte strings are encodings", accepted)
	}
}

// P18.1 and the rule Memory: no room behind Data is used, and an encoding shares memory neither with the frame nor with another
// encoding.
func TestEncodeMemory(t *testing.T) {
	behind := bytes.Repeat([]byte{0x11}, 20)
	room := append(counting(8), behind...)
	f := ordinary()
	f.Data = room[:8]
	want := encoding(f)
	first, _ := tmframe.Encode(f)
	second, _ := tmframe.Encode(f)
	if !bytes.Equal(room, append(counting(8), behind...)) {
		t.Fatalf("Encode changed the bytes to % X", room)
	}
	first = append(first, behind...)
	clear(first)
	if !bytes.Equal(second, want) || !bytes.Equal(room, append(counting(8), behind...)) {
		t.Error("changing an encoding changed another one, or the frame")
	}
	clear(room)
	if !bytes.Equal(second, want) {
		t.Error("changing the frame changed its encoding")
	}
	third, _ := tmframe.Encode(f)
	if !bytes.Equal(third, encoding(f)) || bytes.Equal(third, want) {
		t.Error("Encode answers for the frame as it was before")
	}
}

// P18.2 and the rule Memory: no room behind the bytes is used, and a frame shares memory neither with them nor with another
// frame.
func TestDecodeMemory(t *testing.T) {
	behind := []byte{0x55, 0x66, 0x77}
	f := sized(8)
	long := append(encoding(f), behind...)
	b := long[:len(long)-len(behind)]
	first, _ := tmframe.Decode(b)
	second, _ := tmframe.Decode(b)
	first.Data = append(first.Data, bytes.Repeat([]byte{0x99}, 20)...)
	clear(first.Data)
	if !bytes.Equal(long, append(encoding(f), behind...)) || !same(second, f) {
		t.Error("changing a decoded frame changed the bytes, or another frame")
	}
	clear(long)
	if !same(second, f) {
		t.Error("changing the bytes changed the decoded frame")
	}
	expectRefused(t, b, api.ErrSum)
}

// The rule Determinism: what was called before does not matter.
func TestIndependence(t *testing.T) {
	f := ordinary()
	want := encoding(f)
	expectEncoded(t, f, want)
	expectInvalid(t, api.TmFrame{})
	expectRefused(t, unsummed(want), api.ErrSum)
	expectRefused(t, want[:12], api.ErrShort)
	expectValid(t, highest(most))
	expectEncoded(t, f, want)
}
