package tcframe_test

import (
	"bytes"
	"fmt"
	"math"
	"testing"

	"spacecraft/api"
	"spacecraft/tcframe"
)

const (
	least    = math.MinInt
	greatest = math.MaxInt
	// most is the greatest number of bytes of Data.
	most = 1017
)

// pseudo returns numbers that follow no simple rule but are the same in every run.
func pseudo() func() uint64 {
	x := uint64(0x9E3779B97F4A7C15)
	return func() uint64 {
		x ^= x << 13
		x ^= x >> 7
		x ^= x << 17
		return x >> 20
	}
}

// someBytes returns size bytes that follow no rule.
func someBytes(next func() uint64, size int) []byte {
	b := make([]byte, size)
	for i := range b {
		b[i] = byte(next())
	}
	return b
}

// counting returns size bytes none of which is equal to its neighbours.
func counting(size int) []byte {
	b := make([]byte, size)
	for i := range b {
		b[i] = byte(i*7 + i/256 + 1)
	}
	return b
}

// ordinary returns a frame that is far from every edge.
func ordinary() api.TcFrame {
	return api.TcFrame{Bypass: true, Control: true, Craft: 0x2A5, Channel: 5, Seq: 0x9C, Data: []byte{0xAA, 0xBB, 0xCC}}
}

// clone returns f with data of its own.
func clone(f api.TcFrame) api.TcFrame {
	f.Data = bytes.Clone(f.Data)
	return f
}

func same(f, g api.TcFrame) bool {
	return f.Bypass == g.Bypass && f.Control == g.Control && f.Craft == g.Craft && f.Channel == g.Channel && f.Seq == g.Seq &&
		bytes.Equal(f.Data, g.Data)
}

// sum is the checksum of chapter 1, computed as the remainder of a division: two bytes of zeros follow the bytes, and the
// first two of all are inverted.
func sum(b []byte) int {
	long := append(bytes.Clone(b), 0, 0)
	long[0] ^= 0xFF
	long[1] ^= 0xFF
	remainder := 0
	for _, x := range long {
		for place := 128; place > 0; place /= 2 {
			remainder = 2*remainder + int(x)/place%2
			if remainder >= 65536 {
				remainder ^= 0x11021
			}
		}
	}
	return remainder
}

// summed returns b followed by the right checksum.
func summed(b ...byte) []byte {
	s := sum(b)
	return append(bytes.Clone(b), byte(s/256), byte(s%256))
}

// resummed returns b with its last two bytes replaced by the right checksum.
func resummed(b []byte) []byte { return summed(b[:len(b)-2]...) }

// unsummed returns b with a checksum that is wrong by one bit.
func unsummed(b []byte) []byte {
	c := resummed(b)
	c[len(c)-1] ^= 1
	return c
}

// valid is the chapter's definition, one condition after the other.
func valid(f api.TcFrame) bool {
	switch {
	case f.Craft < 0 || f.Craft >= 1024:
		return false
	case f.Channel < 0 || f.Channel >= 8:
		return false
	case f.Seq < 0 || f.Seq >= 256:
		return false
	case len(f.Data) == 0 || len(f.Data) >= 1018:
		return false
	case f.Control && !f.Bypass:
		return false
	}
	return true
}

// header holds what the first five bytes of an encoding state.
type header struct{ version, bypass, control, spare, craft, channel, length, seq int }

// stated returns the header of the encoding of f.
func stated(f api.TcFrame) header {
	h := header{craft: f.Craft, channel: f.Channel, length: len(f.Data) + 6, seq: f.Seq}
	if f.Bypass {
		h.bypass = 1
	}
	if f.Control {
		h.control = 1
	}
	return h
}

// bytes computes the five bytes with sums.
func (h header) bytes() []byte {
	first := 16384*h.version + 8192*h.bypass + 4096*h.control + 1024*h.spare + h.craft
	second := 1024*h.channel + h.length
	return []byte{byte(first / 256), byte(first % 256), byte(second / 256), byte(second % 256), byte(h.seq)}
}

// with returns the bytes of h, data and the right checksum.
func (h header) with(data ...byte) []byte { return summed(append(h.bytes(), data...)...) }

// encoding is the chapter's encoding of a valid frame.
func encoding(f api.TcFrame) []byte { return stated(f).with(f.Data...) }

// decoding is P14.2, computed with quotients.
func decoding(b []byte) (api.TcFrame, api.Errno) {
	n := len(b)
	switch {
	case n < 8:
		return api.TcFrame{}, api.ErrShort
	case n > 1024:
		return api.TcFrame{}, api.ErrLong
	case sum(b[:n-2]) != 256*int(b[n-2])+int(b[n-1]):
		return api.TcFrame{}, api.ErrSum
	}
	first, second := 256*int(b[0])+int(b[1]), 256*int(b[2])+int(b[3])
	bypass, control, channel := first/8192%2, first/4096%2, second/1024
	if first/16384 != 0 || first/1024%4 != 0 || second%1024 != n-1 || channel > 7 || control == 1 && bypass == 0 {
		return api.TcFrame{}, api.ErrForm
	}
	return api.TcFrame{
		Bypass:  bypass == 1,
		Control: control == 1,
		Craft:   first % 1024,
		Channel: channel,
		Seq:     int(b[4]),
		Data:    b[5 : n-2],
	}, api.OK
}

// expectDecode checks the answer of Decode, and that b stays as it is.
func expectDecode(t *testing.T, b []byte, want api.TcFrame, wantErr api.Errno) {
	t.Helper()
	before := bytes.Clone(b)
	got, err := tcframe.Decode(b)
	if !same(got, want) || err != wantErr {
		t.Fatalf("Decode(% X), of %d bytes, = %s, %d, want %s, %d", head(b), len(b), show(got), err, show(want), wantErr)
	}
	if !bytes.Equal(b, before) {
		t.Fatalf("Decode changed % X to % X", head(before), head(b))
	}
}

// expectRefused checks that Decode returns an error and the zero frame.
func expectRefused(t *testing.T, b []byte, want api.Errno) {
	t.Helper()
	expectDecode(t, b, api.TcFrame{}, want)
}

// expectDecoded checks that Decode answers as the chapter says, whatever b is.
func expectDecoded(t *testing.T, b []byte) {
	t.Helper()
	f, err := decoding(b)
	expectDecode(t, b, f, err)
}

// expectEncoded checks that f is valid and is encoded as want, that it stays as it is, and that it is decoded again.
func expectEncoded(t *testing.T, f api.TcFrame, want []byte) {
	t.Helper()
	before := clone(f)
	if !tcframe.Valid(f) {
		t.Fatalf("%s is not valid", show(f))
	}
	got, err := tcframe.Encode(f)
	if err != api.OK || !bytes.Equal(got, want) {
		t.Fatalf("Encode of %s = % X, %d, want % X", show(f), got, err, want)
	}
	if !same(f, before) {
		t.Fatalf("Encode changed %s to %s", show(before), show(f))
	}
	expectDecode(t, want, f, api.OK)
}

// expectValid checks that f is valid and is encoded and decoded as the chapter says.
func expectValid(t *testing.T, f api.TcFrame) {
	t.Helper()
	expectEncoded(t, f, encoding(f))
}

// expectInvalid checks that f is not valid and cannot be encoded, and that it stays as it is.
func expectInvalid(t *testing.T, f api.TcFrame) {
	t.Helper()
	before := clone(f)
	if tcframe.Valid(f) {
		t.Fatalf("%s is valid", show(f))
	}
	if b, err := tcframe.Encode(f); len(b) != 0 || err != api.ErrArg {
		t.Fatalf("Encode of %s = % X, %d, want nothing, ErrArg", show(f), head(b), err)
	}
	if !same(f, before) {
		t.Fatalf("%s became %s", show(before), show(f))
	}
}

// expectFrame checks a frame of Unlock or SetNext.
func expectFrame(t *testing.T, name string, got, want api.TcFrame) {
	t.Helper()
	if !same(got, want) {
		t.Fatalf("%s = %s, want %s", name, show(got), show(want))
	}
}

// expectDirective checks the answer of Directive, and that f stays as it is.
func expectDirective(t *testing.T, f api.TcFrame, kind, next int, ok bool) {
	t.Helper()
	before := clone(f)
	gotKind, gotNext, gotOK := tcframe.Directive(f)
	if gotKind != kind || gotNext != next || gotOK != ok {
		t.Fatalf("Directive of %s = %d, %d, %t, want %d, %d, %t", show(f), gotKind, gotNext, gotOK, kind, next, ok)
	}
	if !same(f, before) {
		t.Fatalf("Directive changed %s to %s", show(before), show(f))
	}
}

// head returns the first bytes of b, which are enough for a message.
func head(b []byte) []byte { return b[:min(len(b), 16)] }

func show(f api.TcFrame) string {
	return fmt.Sprintf("{Bypass %t, Control %t, Craft %d, Channel %d, Seq %d, %d bytes: % X}",
		f.Bypass, f.Control, f.Craft, f.Channel, f.Seq, len(f.Data), head(f.Data))
}

// P14.1, P14.3: the chapter's examples, with the bytes of their checksums.
func TestExamples(t *testing.T) {
	expectEncoded(t, api.TcFrame{Craft: 5, Channel: 1, Seq: 3, Data: []byte{0xAA}}, []byte{0x00, 0x05, 0x04, 0x07, 0x03, 0xAA, 0x23, 0xD5})
	expectEncoded(t, tcframe.Unlock(5, 1), []byte{0x30, 0x05, 0x04, 0x07, 0x00, 0x00, 0x4D, 0xAA})
}

// P14.1, P14.2: frames whose bytes are written out: each field by itself, all of them at their greatest values, and mixed.
func TestWrittenOut(t *testing.T) {
	for _, c := range []struct {
		f    api.TcFrame
		want []byte
	}{
		{api.TcFrame{Data: []byte{0}}, []byte{0, 0, 0, 7, 0, 0, 0x8B, 0x80}},
		{api.TcFrame{Bypass: true, Data: []byte{0}}, []byte{0x20, 0, 0, 7, 0, 0, 0xBE, 0x88}},
		{api.TcFrame{Bypass: true, Control: true, Data: []byte{0}}, []byte{0x30, 0, 0, 7, 0, 0, 0xA4, 0x0C}},
		{api.TcFrame{Craft: 1, Data: []byte{0}}, []byte{0, 1, 0, 7, 0, 0, 0x21, 0xD1}},
		{api.TcFrame{Craft: 256, Data: []byte{0}}, []byte{1, 0, 0, 7, 0, 0, 0xCE, 0x20}},
		{api.TcFrame{Craft: 1023, Data: []byte{0}}, []byte{3, 0xFF, 0, 7, 0, 0, 0x1F, 0xCF}},
		{api.TcFrame{Channel: 1, Data: []byte{0}}, []byte{0, 0, 4, 7, 0, 0, 0x41, 0x71}},
		{api.TcFrame{Channel: 7, Data: []byte{0}}, []byte{0, 0, 0x1C, 7, 0, 0, 0xDF, 0x15}},
		{api.TcFrame{Seq: 1, Data: []byte{0}}, []byte{0, 0, 0, 7, 1, 0, 0xB8, 0xB1}},
		{api.TcFrame{Seq: 255, Data: []byte{0}}, []byte{0, 0, 0, 7, 0xFF, 0, 0x88, 0x7F}},
		{api.TcFrame{Data: []byte{0xFF}}, []byte{0, 0, 0, 7, 0, 0xFF, 0x95, 0x70}},
		{
			api.TcFrame{Bypass: true, Control: true, Craft: 1023, Channel: 7, Seq: 255, Data: []byte{0xFF}},
			[]byte{0x33, 0xFF, 0x1C, 7, 0xFF, 0xFF, 0x79, 0xD9},
		},
		{
			api.TcFrame{Bypass: true, Craft: 0x2A5, Channel: 6, Seq: 0x9C, Data: []byte{0xDE, 0xAD, 0xBE}},
			[]byte{0x22, 0xA5, 0x18, 9, 0x9C, 0xDE, 0xAD, 0xBE, 0x1C, 0xED},
		},
	} {
		expectEncoded(t, c.f, c.want)
	}
	for _, c := range []struct {
		size                      int
		third, fourth, sum1, sum2 byte
	}{
		{249, 0x08, 0xFF, 0xBC, 0x94},
		{250, 0x09, 0x00, 0x94, 0x25},
		{251, 0x09, 0x01, 0x4B, 0x80},
		{most, 0x0B, 0xFF, 0x98, 0xF5},
	} {
		want := append([]byte{0, 3, c.third, c.fourth, 77}, counting(c.size)...)
		expectEncoded(t, api.TcFrame{Craft: 3, Channel: 2, Seq: 77, Data: counting(c.size)}, append(want, c.sum1, c.sum2))
	}
	full := bytes.Repeat([]byte{0xFF}, most)
	want := append([]byte{0x33, 0xFF, 0x1F, 0xFF, 0xFF}, full...)
	expectEncoded(t, api.TcFrame{Bypass: true, Control: true, Craft: 1023, Channel: 7, Seq: 255, Data: full}, append(want, 0xC8, 0x60))
}

// P14.1, P14.2, P14.5: frames with and without Bypass and Control, on every channel, with short and long data.
func TestOrdinary(t *testing.T) {
	for _, flags := range []struct{ bypass, control bool }{{false, false}, {true, false}, {true, true}} {
		for channel := range 8 {
			for _, size := range []int{1, 2, 3, 10, 249, 250, 251, 505, 506, 507, 761, 762, most - 1, most} {
				for _, craft := range []int{0, 1, 5, 255, 256, 512, 1022, 1023} {
					expectValid(t, api.TcFrame{
						Bypass: flags.bypass, Control: flags.control, Craft: craft, Channel: channel, Seq: 77 * size % 256, Data: counting(size),
					})
				}
			}
		}
	}
}

// P14.1, P14.5: every Craft, every Seq, and every number of bytes of Data.
func TestEveryValue(t *testing.T) {
	f := ordinary()
	for f.Craft = range 1024 {
		expectValid(t, f)
	}
	f = ordinary()
	for f.Seq = range 256 {
		expectValid(t, f)
	}
	f = ordinary()
	for size := 1; size <= most; size++ {
		f.Data = counting(size)
		expectValid(t, f)
	}
}

// P14.1: each number at its least and at its greatest value, just outside of them, and far outside.
func TestFields(t *testing.T) {
	for _, c := range []struct {
		name     string
		greatest int
		set      func(f *api.TcFrame, n int)
	}{
		{"Craft", 1023, func(f *api.TcFrame, n int) { f.Craft = n }},
		{"Channel", 7, func(f *api.TcFrame, n int) { f.Channel = n }},
		{"Seq", 255, func(f *api.TcFrame, n int) { f.Seq = n }},
	} {
		with := func(n int) api.TcFrame {
			f := ordinary()
			c.set(&f, n)
			return f
		}
		for _, n := range []int{0, 1, c.greatest - 1, c.greatest} {
			expectValid(t, with(n))
		}
		// Some of these have the bits of a value that is permitted, and more.
		for _, n := range []int{
			least, least + 1, -1 << 32, -1024, -256, -64, -8, -2, -1, c.greatest + 1, c.greatest + 2, 2*c.greatest + 1, 2*c.greatest + 2,
			1 << 16, 1<<16 + 1, 1 << 32, 1<<32 + 1, greatest - 1, greatest,
		} {
			expectInvalid(t, with(n))
		}
	}
	for _, n := range []int{8, 9, 15, 16, 32, 63, 64, 65} {
		f := ordinary()
		f.Channel = n
		expectInvalid(t, f)
	}
}

// P14.1: the numbers of bytes of Data.
func TestDataSizes(t *testing.T) {
	f := ordinary()
	for _, size := range []int{1, 2, most - 1, most} {
		f.Data = counting(size)
		expectValid(t, f)
		f.Data = make([]byte, size)
		expectValid(t, f)
	}
	for _, data := range [][]byte{nil, {}, counting(most)[:0], counting(most + 1), counting(1024), counting(1025), counting(1 << 16), counting(1<<16 + 1)} {
		f.Data = data
		expectInvalid(t, f)
	}
}

// P14.1: Control needs Bypass, whatever the data are.
func TestControlWithoutBypass(t *testing.T) {
	for _, f := range []api.TcFrame{ordinary(), tcframe.Unlock(5, 1), tcframe.SetNext(5, 1, 7)} {
		for _, c := range []struct{ bypass, control, valid bool }{
			{false, false, true}, {true, false, true}, {true, true, true}, {false, true, false},
		} {
			f.Bypass, f.Control = c.bypass, c.control
			if c.valid {
				expectValid(t, f)
			} else {
				expectInvalid(t, f)
			}
		}
	}
}

// P14.1: frames that are not valid for several reasons.
func TestInvalidTogether(t *testing.T) {
	for _, craft := range []int{-1, 1023, 1024} {
		for _, channel := range []int{-1, 7, 8} {
			for _, seq := range []int{-1, 255, 256} {
				for _, size := range []int{0, most, most + 1} {
					for _, bypass := range []bool{false, true} {
						f := api.TcFrame{Bypass: bypass, Control: true, Craft: craft, Channel: channel, Seq: seq, Data: counting(size)}
						if valid(f) {
							expectValid(t, f)
						} else {
							expectInvalid(t, f)
						}
					}
				}
			}
		}
	}
	expectInvalid(t, api.TcFrame{})
	expectInvalid(t, api.TcFrame{Control: true})
	expectInvalid(t, api.TcFrame{Control: true, Craft: least, Channel: least, Seq: least})
	expectInvalid(t, api.TcFrame{Control: true, Craft: greatest, Channel: greatest, Seq: greatest, Data: counting(2000)})
}

// P14.2: byte strings of the least and the greatest lengths, and just outside of them, with right and wrong checksums. The
// lengths come before the checksum.
func TestDecodeLengths(t *testing.T) {
	expectRefused(t, nil, api.ErrShort)
	for size := range 8 {
		expectRefused(t, make([]byte, size), api.ErrShort)
		expectRefused(t, counting(size), api.ErrShort)
		if size >= 2 {
			expectRefused(t, unsummed(counting(size)), api.ErrShort)
		}
		if size >= 4 {
			expectRefused(t, resummed(counting(size)), api.ErrShort)
		}
	}
	// The header states the length of 7 bytes: they are an encoding but for the missing Data.
	expectRefused(t, header{length: 6}.with(), api.ErrShort)

	for _, size := range []int{8, 9, 10, 1022, 1023, 1024} {
		b := header{bypass: 1, craft: 5, channel: 1, length: size - 1, seq: 3}.with(counting(size - 7)...)
		expectDecode(t, b, api.TcFrame{Bypass: true, Craft: 5, Channel: 1, Seq: 3, Data: counting(size - 7)}, api.OK)
		expectRefused(t, unsummed(b), api.ErrSum)
	}
	for _, size := range []int{1025, 1026, 2048, 2049, 65536, 65544} {
		b := header{bypass: 1, craft: 5, channel: 1, length: (size - 1) % 1024, seq: 3}.with(counting(size - 7)...)
		expectRefused(t, b, api.ErrLong)
		expectRefused(t, unsummed(b), api.ErrLong)
		expectRefused(t, make([]byte, size), api.ErrLong)
	}
}

// P14.2: only the right checksum is accepted, and it comes before the form.
func TestDecodeSum(t *testing.T) {
	b := encoding(ordinary())
	n := len(b)
	right := 256*int(b[n-2]) + int(b[n-1])
	for s := range 1 << 16 {
		b[n-2], b[n-1] = byte(s>>8), byte(s)
		if s == right {
			expectDecode(t, b, ordinary(), api.OK)
		} else {
			expectRefused(t, b, api.ErrSum)
		}
	}
	swapped := encoding(ordinary())
	swapped[n-2], swapped[n-1] = swapped[n-1], swapped[n-2]
	expectRefused(t, swapped, api.ErrSum)
	expectRefused(t, make([]byte, 8), api.ErrSum)
	expectRefused(t, make([]byte, 1024), api.ErrSum)

	bad := header{version: 3, control: 1, spare: 3, channel: 63, length: 0}.with(1, 2, 3)
	expectRefused(t, bad, api.ErrForm)
	expectRefused(t, unsummed(bad), api.ErrSum)
	expectRefused(t, bad[:len(bad)-1], api.ErrSum)
}

// P14.2: each single reason for a wrong form, in short and in long byte strings whose checksum is right.
func TestDecodeForm(t *testing.T) {
	for _, f := range []api.TcFrame{
		{Data: []byte{0}},
		{Craft: 5, Channel: 1, Seq: 3, Data: []byte{0xAA}},
		{Bypass: true, Craft: 1023, Channel: 7, Seq: 255, Data: []byte{0xFF, 0xFF}},
		{Bypass: true, Craft: 6, Channel: 2, Seq: 4, Data: counting(255)},
		{Craft: 6, Channel: 2, Seq: 4, Data: counting(most - 1)},
		{Bypass: true, Control: true, Craft: 6, Channel: 2, Seq: 4, Data: counting(most)},
	} {
		refuse := func(change func(h *header)) {
			t.Helper()
			h := stated(f)
			change(&h)
			if h == stated(f) {
				return
			}
			b := h.with(f.Data...)
			expectRefused(t, b, api.ErrForm)
			expectRefused(t, unsummed(b), api.ErrSum)
		}
		expectDecode(t, stated(f).with(f.Data...), f, api.OK)
		for version := 1; version <= 3; version++ {
			refuse(func(h *header) { h.version = version })
		}
		for spare := 1; spare <= 3; spare++ {
			refuse(func(h *header) { h.spare = spare })
		}
		for channel := 8; channel <= 63; channel++ {
			refuse(func(h *header) { h.channel = channel })
		}
		refuse(func(h *header) { h.bypass, h.control = 0, 1 })
		// Every length but the right one, also one less, one more, 0 and 1023.
		for length := range 1024 {
			refuse(func(h *header) { h.length = length })
		}
	}
}

// P14.2: what is missing or follows makes the length wrong, even if the checksum is right.
func TestDecodeOtherLength(t *testing.T) {
	for _, size := range []int{1, 2, 3, 100, most - 1, most} {
		f := ordinary()
		f.Data = counting(size)
		b := encoding(f)
		if size < most {
			expectRefused(t, append(bytes.Clone(b), 1), api.ErrSum)
			// The checksum of an encoding and zeros is still right.
			expectRefused(t, append(bytes.Clone(b), 0), api.ErrForm)
			expectRefused(t, stated(f).with(append(counting(size), 0)...), api.ErrForm)
		} else {
			expectRefused(t, append(bytes.Clone(b), 0), api.ErrLong)
		}
		if size < most-1 {
			expectRefused(t, summed(b...), api.ErrForm)
		}
		if size > 1 {
			expectRefused(t, stated(f).with(counting(size-1)...), api.ErrForm)
			expectRefused(t, b[:len(b)-1], api.ErrSum)
		}
	}
}

// P14.2, P14.5: all values of the first two bytes, and all of the next two, each with several values of the others. This
// has every combination of the reasons for a wrong form.
func TestDecodeHeaders(t *testing.T) {
	for _, rest := range []header{
		{length: 7}, {channel: 7, length: 7, seq: 255}, {channel: 8, length: 7}, {channel: 1, length: 8, seq: 1}, {channel: 63, length: 1023},
	} {
		b := rest.bytes()
		for n := range 1 << 16 {
			b[0], b[1] = byte(n>>8), byte(n)
			expectDecoded(t, summed(append(bytes.Clone(b), 0x5A)...))
		}
	}
	for _, rest := range []header{
		{}, {bypass: 1, control: 1, craft: 1023, seq: 255}, {bypass: 1, craft: 5}, {control: 1}, {version: 1}, {spare: 2, craft: 77},
	} {
		b := rest.bytes()
		for n := range 1 << 16 {
			b[2], b[3] = byte(n>>8), byte(n)
			expectDecoded(t, summed(append(bytes.Clone(b), 0x5A, 0xA5)...))
		}
	}
}

// P14.3: Unlock does not check its arguments.
func TestUnlock(t *testing.T) {
	for _, craft := range []int{least, -1, 0, 1, 5, 1022, 1023, 1024, greatest} {
		for _, channel := range []int{least, -1, 0, 1, 7, 8, 63, 64, greatest} {
			want := api.TcFrame{Bypass: true, Control: true, Craft: craft, Channel: channel, Data: []byte{0}}
			f := tcframe.Unlock(craft, channel)
			expectFrame(t, fmt.Sprintf("Unlock(%d, %d)", craft, channel), f, want)
			if valid(want) {
				expectValid(t, f)
			} else {
				expectInvalid(t, f)
			}
			expectDirective(t, f, 0, 0, true)
		}
	}
	expectEncoded(t, tcframe.Unlock(1023, 7), []byte{0x33, 0xFF, 0x1C, 0x07, 0x00, 0x00, 0x64, 0xD6})
}

// P14.3: SetNext checks only next.
func TestSetNext(t *testing.T) {
	for _, craft := range []int{least, -1, 0, 1, 5, 1022, 1023, 1024, greatest} {
		for _, channel := range []int{least, -1, 0, 1, 7, 8, 63, 64, greatest} {
			for _, next := range []int{least, -65536, -256, -255, -2, -1, 256, 257, 511, 512, 65536, 1 << 32, greatest} {
				expectFrame(t, fmt.Sprintf("SetNext(%d, %d, %d)", craft, channel, next), tcframe.SetNext(craft, channel, next), api.TcFrame{})
			}
			for next := range 256 {
				want := api.TcFrame{Bypass: true, Control: true, Craft: craft, Channel: channel, Data: []byte{0x82, 0, byte(next)}}
				f := tcframe.SetNext(craft, channel, next)
				expectFrame(t, fmt.Sprintf("SetNext(%d, %d, %d)", craft, channel, next), f, want)
				if valid(want) {
					expectValid(t, f)
				} else {
					expectInvalid(t, f)
				}
				expectDirective(t, f, 1, next, true)
			}
		}
	}
	expectEncoded(t, tcframe.SetNext(5, 1, 7), []byte{0x30, 0x05, 0x04, 0x09, 0x00, 0x82, 0x00, 0x07, 0x85, 0x45})
	expectDirective(t, tcframe.SetNext(5, 1, -1), 0, 0, false)
	expectDirective(t, tcframe.SetNext(5, 1, 256), 0, 0, false)
}

// withFlags returns frames with the given data: with Bypass, Control, both or none, and with values of the other fields that
// valid frames have and that they do not have.
func withFlags(data []byte) []api.TcFrame {
	var all []api.TcFrame
	for _, f := range []api.TcFrame{
		{}, {Craft: 5, Channel: 1}, {Craft: 1023, Channel: 7, Seq: 255}, {Seq: 1}, {Craft: -1, Channel: -1, Seq: -1},
		{Craft: 1024, Channel: 8, Seq: 256}, {Craft: least, Channel: least, Seq: least}, {Craft: greatest, Channel: greatest, Seq: greatest},
	} {
		f.Data = data
		for _, bypass := range []bool{false, true} {
			for _, control := range []bool{false, true} {
				f.Bypass, f.Control = bypass, control
				all = append(all, f)
			}
		}
	}
	return all
}

// P14.4: data that are directives and data that nearly are, each with all flags, and with other fields of any value.
func TestDirective(t *testing.T) {
	for _, c := range []struct {
		data       []byte
		kind, next int
		ok         bool
	}{
		{nil, 0, 0, false},
		{[]byte{}, 0, 0, false},
		{[]byte{0x00}, 0, 0, true},
		{[]byte{0x01}, 0, 0, false},
		{[]byte{0x80}, 0, 0, false},
		{[]byte{0x82}, 0, 0, false},
		{[]byte{0xFF}, 0, 0, false},
		{[]byte{0x82, 0x00}, 0, 0, false},
		{[]byte{0x00, 0x00}, 0, 0, false},
		{[]byte{0x00, 0x01}, 0, 0, false},
		{[]byte{0x82, 0x00, 0x00}, 1, 0, true},
		{[]byte{0x82, 0x00, 0x01}, 1, 1, true},
		{[]byte{0x82, 0x00, 0x82}, 1, 0x82, true},
		{[]byte{0x82, 0x00, 0xFE}, 1, 254, true},
		{[]byte{0x82, 0x00, 0xFF}, 1, 255, true},
		{[]byte{0x82, 0x01, 0x00}, 0, 0, false},
		{[]byte{0x82, 0x80, 0x05}, 0, 0, false},
		{[]byte{0x82, 0x82, 0x00}, 0, 0, false},
		{[]byte{0x00, 0x00, 0x00}, 0, 0, false},
		{[]byte{0x00, 0x82, 0x00}, 0, 0, false},
		{[]byte{0x83, 0x00, 0x00}, 0, 0, false},
		{[]byte{0x81, 0x00, 0x07}, 0, 0, false},
		{[]byte{0x02, 0x00, 0x07}, 0, 0, false},
		{[]byte{0x82, 0x00, 0x00, 0x00}, 0, 0, false},
		{[]byte{0x82, 0x00, 0x07, 0x00}, 0, 0, false},
		{[]byte{0x00, 0x82, 0x00, 0x07}, 0, 0, false},
		{make([]byte, most), 0, 0, false},
		{append([]byte{0x82}, make([]byte, most)...), 0, 0, false},
	} {
		for _, f := range withFlags(c.data) {
			if f.Bypass && f.Control {
				expectDirective(t, f, c.kind, c.next, c.ok)
			} else {
				expectDirective(t, f, 0, 0, false)
			}
		}
	}
}

// P14.4: all data of one byte, all of two bytes, and all of three bytes whose last one is among some.
func TestDirectiveEveryByte(t *testing.T) {
	f := api.TcFrame{Bypass: true, Control: true}
	for first := range 256 {
		f.Data = []byte{byte(first)}
		expectDirective(t, f, 0, 0, first == 0)
		for second := range 256 {
			f.Data = []byte{byte(first), byte(second)}
			expectDirective(t, f, 0, 0, false)
			for _, third := range []int{0, 1, 7, 0x80, 0x82, 255} {
				f.Data = []byte{byte(first), byte(second), byte(third)}
				if first == 0x82 && second == 0 {
					expectDirective(t, f, 1, third, true)
				} else {
					expectDirective(t, f, 0, 0, false)
				}
			}
		}
	}
}

// P14.3, P14.4: directives keep their meaning when they are encoded and decoded.
func TestDirectiveSent(t *testing.T) {
	send := func(f api.TcFrame) api.TcFrame {
		t.Helper()
		b, err := tcframe.Encode(f)
		if err != api.OK {
			t.Fatalf("Encode of %s: %d", show(f), err)
		}
		g, err := tcframe.Decode(b)
		if err != api.OK {
			t.Fatalf("Decode(% X): %d", b, err)
		}
		return g
	}
	for channel := range 8 {
		expectDirective(t, send(tcframe.Unlock(channel*100, channel)), 0, 0, true)
		for next := range 256 {
			expectDirective(t, send(tcframe.SetNext(channel*100, channel, next)), 1, next, true)
		}
	}
}

// burst inverts the bits of errors in b, from bit number at on; the bits of a byte count from its most significant one.
func burst(b []byte, at int, errors uint16) {
	for i := range 16 {
		if errors>>(15-i)&1 != 0 {
			b[(at+i)/8] ^= 0x80 >> ((at + i) % 8)
		}
	}
}

// expectBurst checks that Decode rejects b with some inverted bits, and leaves b as it was.
func expectBurst(t *testing.T, b []byte, at int, errors uint16) {
	t.Helper()
	burst(b, at, errors)
	if f, err := tcframe.Decode(b); err != api.ErrSum || !same(f, api.TcFrame{}) {
		t.Fatalf("%d bytes with the error %04X at bit %d: %s, %d", len(b), errors, at, show(f), err)
	}
	burst(b, at, errors)
}

// P14.5: all errors within 16 consecutive bits, at every place of short encodings.
func TestBurstsAll(t *testing.T) {
	for _, f := range []api.TcFrame{
		{Craft: 5, Channel: 1, Seq: 3, Data: []byte{0xAA}},
		{Data: []byte{0}},
		{Bypass: true, Control: true, Craft: 1023, Channel: 7, Seq: 255, Data: []byte{0xFF, 0xFF}},
		tcframe.SetNext(5, 1, 7),
	} {
		b := encoding(f)
		last := 8*len(b) - 16
		for at := range last {
			// Those whose first bit is not inverted are errors at a later place.
			for errors := 1 << 15; errors < 1<<16; errors++ {
				expectBurst(t, b, at, uint16(errors))
			}
		}
		for errors := 1; errors < 1<<16; errors++ {
			expectBurst(t, b, last, uint16(errors))
		}
		expectDecode(t, b, f, api.OK)
	}
}

// P14.5: each single bit and each pair of bits within 16 consecutive ones, and other patterns, at every place of a longer
// encoding and all over one of the greatest size.
func TestBurstsLong(t *testing.T) {
	next := pseudo()
	check := func(f api.TcFrame, at, random int) {
		t.Helper()
		b := encoding(f)
		for second := range 16 {
			// second 0 is a single bit.
			expectBurst(t, b, at, 1<<15|1<<(15-second))
		}
		for _, errors := range []uint16{0xFFFF, 0x1021, 0x8810, 0xC000, 0xAAAA, 0xFF00} {
			expectBurst(t, b, at, errors)
		}
		for range random {
			expectBurst(t, b, at, uint16(next())|1<<(next()%16))
		}
	}
	f := ordinary()
	f.Data = someBytes(next, 60)
	bits := 8 * (len(f.Data) + 7)
	for at := range bits - 15 {
		check(f, at, 50)
	}
	f.Data = someBytes(next, most)
	for at := 0; at <= 8*1024-16; at += 11 {
		check(f, at, 3)
	}
	for _, at := range []int{0, 24, 32, 40, 8*1022 - 8, 8*1022 - 1, 8 * 1022} {
		check(f, at, 20)
	}
	// The last bits, behind which there are no 15 more.
	b := encoding(f)
	for errors := uint16(1); errors < 1<<15; errors += 5 {
		expectBurst(t, b, 8*1024-16, errors)
	}
	expectDecode(t, b, f, api.OK)
}

// someNumber returns a number that is mostly from 0 to greatest, and sometimes outside.
func someNumber(next func() uint64, greatest int) int {
	n := int(next() % uint64(greatest+1))
	switch next() % 16 {
	case 0:
		return -1 - n
	case 1:
		return greatest + 1 + n
	}
	return n
}

// P14.1, P14.2, P14.5: frames chosen without a rule.
func TestRandomFrames(t *testing.T) {
	next := pseudo()
	accepted, rejected := 0, 0
	for range 20000 {
		size := int(next() % 40)
		if next()%20 == 0 {
			size = int(next() % 1030)
		}
		f := api.TcFrame{
			Bypass:  next()%4 != 0,
			Control: next()%2 == 0,
			Craft:   someNumber(next, 1023),
			Channel: someNumber(next, 7),
			Seq:     someNumber(next, 255),
			Data:    someBytes(next, size),
		}
		if valid(f) {
			accepted++
			expectValid(t, f)
		} else {
			rejected++
			expectInvalid(t, f)
		}
	}
	if accepted < 1000 || rejected < 1000 {
		t.Errorf("%d valid frames and %d others: too few of one kind", accepted, rejected)
	}
}

// expectOnlyEncodings checks that Decode answers as the chapter says, and that what it accepts is the encoding of the frame
// that it returns. It reports whether b was accepted.
func expectOnlyEncodings(t *testing.T, b []byte) bool {
	t.Helper()
	expectDecoded(t, b)
	f, err := tcframe.Decode(b)
	if err != api.OK {
		return false
	}
	if again, err := tcframe.Encode(f); err != api.OK || !bytes.Equal(again, b) {
		t.Fatalf("% X is decoded as %s, which is encoded as % X, %d", b, show(f), again, err)
	}
	return true
}

// P14.2, P14.5: byte strings chosen without a rule, with any checksum and with the right one, also with the right length.
func TestRandomBytes(t *testing.T) {
	next := pseudo()
	accepted := 0
	for range 30000 {
		size := int(next() % 40)
		if next()%20 == 0 {
			size = int(next() % 1040)
		}
		b := someBytes(next, size)
		expectOnlyEncodings(t, b)
		if size < 4 {
			continue
		}
		expectOnlyEncodings(t, summed(b...))
		// The lengths that do not fit into the field come out as some other one.
		length := (size + 1) % 1024
		b[2], b[3] = b[2]&^3|byte(length>>8), byte(length)
		expectOnlyEncodings(t, summed(b...))
		b[2] &= 0x1F
		expectOnlyEncodings(t, summed(b...))
		b[0] &= 0x33
		if expectOnlyEncodings(t, summed(b...)) {
			accepted++
		}
	}
	if accepted < 1000 {
		t.Errorf("only %d of the byte strings are encodings", accepted)
	}
}

// P14.1, P14.2 and the rule Memory: no room behind an argument is used, and no result shares memory with an argument or with
// another result.
func TestMemory(t *testing.T) {
	room := append(counting(8), 0x11, 0x22, 0x33, 0x44)
	f := ordinary()
	f.Data = room[:8]
	first, _ := tcframe.Encode(f)
	second, _ := tcframe.Encode(f)
	if !bytes.Equal(room, append(counting(8), 0x11, 0x22, 0x33, 0x44)) {
		t.Fatalf("Encode changed the bytes to % X", room)
	}
	kept := bytes.Clone(first)
	clear(first)
	if !bytes.Equal(second, kept) || !bytes.Equal(f.Data, counting(8)) {
		t.Error("changing an encoding changed another one, or the frame")
	}
	clear(f.Data)
	if !bytes.Equal(second, kept) {
		t.Error("changing the frame changed its encoding")
	}

	long := append(bytes.Clone(kept), 0x55, 0x66, 0x77)
	b := long[:len(kept)]
	g, _ := tcframe.Decode(b)
	h, _ := tcframe.Decode(b)
	g.Data = append(g.Data, 0x99, 0x99, 0x99)
	clear(g.Data)
	if !bytes.Equal(long, append(bytes.Clone(kept), 0x55, 0x66, 0x77)) || !bytes.Equal(h.Data, counting(8)) {
		t.Error("changing a decoded frame changed the bytes, or another frame")
	}
	clear(long)
	if !bytes.Equal(h.Data, counting(8)) {
		t.Error("changing the bytes changed the decoded frame")
	}
}

// P14.3 and the rule Memory: the frames of Unlock and SetNext have data of their own.
func TestDirectiveMemory(t *testing.T) {
	u, v := tcframe.Unlock(5, 1), tcframe.Unlock(5, 1)
	u.Data[0] = 0xFF
	expectDirective(t, u, 0, 0, false)
	expectDirective(t, v, 0, 0, true)
	expectDirective(t, tcframe.Unlock(5, 1), 0, 0, true)

	s, r := tcframe.SetNext(5, 1, 7), tcframe.SetNext(5, 1, 7)
	copy(s.Data, []byte{1, 2, 3})
	expectDirective(t, s, 0, 0, false)
	expectDirective(t, r, 1, 7, true)
	expectDirective(t, tcframe.SetNext(5, 1, 8), 1, 8, true)
	expectDirective(t, r, 1, 7, true)

	// Whatever lies behind the data of one frame must not be that of another one.
	for _, f := range []*api.TcFrame{&v, &r} {
		f.Data = append(f.Data, 0x99, 0x99, 0x99)
	}
	expectDirective(t, tcframe.Unlock(5, 1), 0, 0, true)
	expectDirective(t, tcframe.SetNext(5, 1, 7), 1, 7, true)
}

// The rule Determinism: what was called before does not matter.
func TestIndependence(t *testing.T) {
	f := ordinary()
	want := encoding(f)
	expectEncoded(t, f, want)
	expectInvalid(t, api.TcFrame{Control: true})
	expectRefused(t, unsummed(want), api.ErrSum)
	tcframe.Unlock(-1, -1)
	tcframe.SetNext(0, 0, 300)
	expectDirective(t, f, 0, 0, false)
	expectEncoded(t, f, want)
}
