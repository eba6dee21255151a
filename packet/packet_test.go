package packet_test

import (
	"bytes"
	"fmt"
	"math"
	"testing"

	"spacecraft/api"
	"spacecraft/packet"
)

const (
	least    = math.MinInt
	greatest = math.MaxInt
	// most is the greatest number of bytes of Data.
	most = 4090
)

// pseudo returns numbers that follow no simple rule but are the same in every run.
func pseudo() func() uint64 {
	x := uint64(0x9E3779B97F4A7C15)
	return func() uint64 {
		x ^= x << 13
		x ^= x >> 7
		x ^= x << 17
		return x >> 20
	}
}

// someBytes returns size bytes that follow no rule.
func someBytes(next func() uint64, size int) []byte {
	b := make([]byte, size)
	for i := range b {
		b[i] = byte(next())
	}
	return b
}

// counting returns size bytes none of which is equal to its neighbours, and of which no half is equal to the other.
func counting(size int) []byte {
	b := make([]byte, size)
	for i := range b {
		b[i] = byte(i*7 + i/256 + 1)
	}
	return b
}

// ordinary returns a packet that is far from every edge.
func ordinary() api.Packet {
	return api.Packet{Command: true, Apid: 10, Flags: api.Whole, Count: 1, Data: []byte{0xAA, 0xBB}}
}

// idle returns an idle packet with the given number of bytes of Data.
func idle(size int) api.Packet {
	return api.Packet{Apid: 2047, Flags: 3, Data: make([]byte, size)}
}

// clone returns p with data of its own.
func clone(p api.Packet) api.Packet {
	p.Data = bytes.Clone(p.Data)
	return p
}

func same(p, q api.Packet) bool {
	return p.Command == q.Command && p.Secondary == q.Secondary && p.Apid == q.Apid && p.Flags == q.Flags &&
		p.Count == q.Count && bytes.Equal(p.Data, q.Data)
}

func zeros(b []byte) bool { return bytes.Count(b, []byte{0}) == len(b) }

// valid is P10.1, one condition after the other.
func valid(p api.Packet) bool {
	switch {
	case p.Apid < 0 || p.Apid >= 2048:
		return false
	case p.Flags != 0 && p.Flags != 1 && p.Flags != 2 && p.Flags != 3:
		return false
	case p.Count < 0 || p.Count >= 16384:
		return false
	case len(p.Data) == 0 || len(p.Data) >= 4091:
		return false
	case p.Apid != 2047:
		return true
	}
	return same(p, idle(len(p.Data)))
}

// encoding is the encoding of P10.2 of a valid packet, computed with sums.
func encoding(p api.Packet) []byte {
	first, second, third := p.Apid, 16384*p.Flags+p.Count, len(p.Data)-1
	if p.Command {
		first += 4096
	}
	if p.Secondary {
		first += 2048
	}
	var b []byte
	for _, word := range []int{first, second, third} {
		b = append(b, byte(word/256), byte(word%256))
	}
	return append(b, p.Data...)
}

// stated is P10.3, computed with quotients.
func stated(b []byte) (int, api.Errno) {
	if len(b) < 6 {
		return 0, api.ErrShort
	}
	size := 256*int(b[4]) + int(b[5]) + 7
	switch {
	case b[0]/32 != 0:
		return 0, api.ErrForm
	case size > 4096:
		return 0, api.ErrLong
	}
	return size, api.OK
}

// decoding is P10.4, computed with quotients.
func decoding(b []byte) (api.Packet, int, api.Errno) {
	size, err := stated(b)
	if err != api.OK {
		return api.Packet{}, 0, err
	}
	if len(b) < size {
		return api.Packet{}, 0, api.ErrShort
	}
	p := api.Packet{
		Command:   b[0]/16%2 == 1,
		Secondary: b[0]/8%2 == 1,
		Apid:      256*int(b[0]%8) + int(b[1]),
		Flags:     int(b[2] / 64),
		Count:     256*int(b[2]%64) + int(b[3]),
		Data:      b[6:size],
	}
	if !valid(p) {
		return api.Packet{}, 0, api.ErrForm
	}
	return p, size, api.OK
}

// expectSize checks the answer of Size, and that b stays as it is.
func expectSize(t *testing.T, b []byte, want int, wantErr api.Errno) {
	t.Helper()
	before := bytes.Clone(b)
	if got, err := packet.Size(b); got != want || err != wantErr {
		t.Fatalf("Size(% X) = %d, %d, want %d, %d", head(b), got, err, want, wantErr)
	}
	if !bytes.Equal(b, before) {
		t.Fatalf("Size changed % X to % X", head(before), head(b))
	}
}

// expectDecode checks the answer of Decode, and that b stays as it is.
func expectDecode(t *testing.T, b []byte, want api.Packet, size int, wantErr api.Errno) {
	t.Helper()
	before := bytes.Clone(b)
	got, n, err := packet.Decode(b)
	if !same(got, want) || n != size || err != wantErr {
		t.Fatalf("Decode(% X), of %d bytes, = %s, %d, %d, want %s, %d, %d", head(b), len(b), show(got), n, err, show(want), size, wantErr)
	}
	if !bytes.Equal(b, before) {
		t.Fatalf("Decode changed % X to % X", head(before), head(b))
	}
}

// expectRefused checks that Decode returns an error and nothing else.
func expectRefused(t *testing.T, b []byte, want api.Errno) {
	t.Helper()
	expectDecode(t, b, api.Packet{}, 0, want)
}

// expectPacket checks that b begins with the encoding of p, and what Size and Decode say of it.
func expectPacket(t *testing.T, b []byte, p api.Packet) {
	t.Helper()
	size := 6 + len(p.Data)
	expectSize(t, b, size, api.OK)
	expectSize(t, b[:6], size, api.OK)
	expectDecode(t, b, p, size, api.OK)
}

// expectEncoded checks that p is valid and is encoded as want, and that it stays as it is; it is decoded again with what
// follows it.
func expectEncoded(t *testing.T, p api.Packet, want []byte) {
	t.Helper()
	before := clone(p)
	if !packet.Valid(p) {
		t.Fatalf("%s is not valid", show(p))
	}
	got, err := packet.Encode(p)
	if err != api.OK || !bytes.Equal(got, want) {
		t.Fatalf("Encode of %s = % X, %d, want % X", show(p), head(got), err, head(want))
	}
	if !same(p, before) {
		t.Fatalf("Encode changed %s to %s", show(before), show(p))
	}
	expectPacket(t, got, p)
	for _, after := range [][]byte{{0}, {0xFF}, {0x10, 0x0A, 0xC0, 0x01, 0x00, 0x01, 0xAA, 0xBB}} {
		expectPacket(t, append(bytes.Clone(got), after...), p)
	}
}

// expectValid checks that p is valid and is encoded and decoded as the chapter says.
func expectValid(t *testing.T, p api.Packet) {
	t.Helper()
	expectEncoded(t, p, encoding(p))
}

// expectInvalid checks that p is not valid and cannot be encoded, and that it stays as it is.
func expectInvalid(t *testing.T, p api.Packet) {
	t.Helper()
	before := clone(p)
	if packet.Valid(p) {
		t.Fatalf("%s is valid", show(p))
	}
	if b, err := packet.Encode(p); len(b) != 0 || err != api.ErrArg {
		t.Fatalf("Encode of %s = % X, %d, want nothing, ErrArg", show(p), head(b), err)
	}
	if !same(p, before) {
		t.Fatalf("%s became %s", show(before), show(p))
	}
}

// head returns the first bytes of b, which are enough for a message.
func head(b []byte) []byte { return b[:min(len(b), 16)] }

func show(p api.Packet) string {
	return fmt.Sprintf("{Command %t, Secondary %t, Apid %d, Flags %d, Count %d, %d bytes: % X}",
		p.Command, p.Secondary, p.Apid, p.Flags, p.Count, len(p.Data), head(p.Data))
}

// P10.2, P10.3: the chapter's examples.
func TestExamples(t *testing.T) {
	expectEncoded(t, ordinary(), []byte{0x10, 0x0A, 0xC0, 0x01, 0x00, 0x01, 0xAA, 0xBB})

	if b, err := packet.Idle(7); !bytes.Equal(b, []byte{0x07, 0xFF, 0xC0, 0, 0, 0, 0}) || err != api.OK {
		t.Fatalf("Idle(7) = % X, %d", b, err)
	}

	expectSize(t, []byte{0, 0, 0, 0, 0x0F, 0xFA}, 0, api.ErrLong)
}

// P10.2, P10.4: packets whose bytes are written out.
func TestWrittenOut(t *testing.T) {
	for _, c := range []struct {
		p    api.Packet
		want []byte
	}{
		{api.Packet{Data: []byte{0}}, []byte{0, 0, 0, 0, 0, 0, 0}},
		{api.Packet{Data: []byte{0x5A}}, []byte{0, 0, 0, 0, 0, 0, 0x5A}},
		{api.Packet{Command: true, Data: []byte{0x5A}}, []byte{0x10, 0, 0, 0, 0, 0, 0x5A}},
		{api.Packet{Secondary: true, Data: []byte{0x5A}}, []byte{0x08, 0, 0, 0, 0, 0, 0x5A}},
		{api.Packet{Apid: 1, Data: []byte{0x5A}}, []byte{0, 1, 0, 0, 0, 0, 0x5A}},
		{api.Packet{Apid: 2046, Data: []byte{0x5A}}, []byte{0x07, 0xFE, 0, 0, 0, 0, 0x5A}},
		{api.Packet{Flags: api.First, Data: []byte{0x5A}}, []byte{0, 0, 0x40, 0, 0, 0, 0x5A}},
		{api.Packet{Flags: api.Last, Data: []byte{0x5A}}, []byte{0, 0, 0x80, 0, 0, 0, 0x5A}},
		{api.Packet{Flags: api.Whole, Data: []byte{0x5A}}, []byte{0, 0, 0xC0, 0, 0, 0, 0x5A}},
		{api.Packet{Count: 1, Data: []byte{0x5A}}, []byte{0, 0, 0, 1, 0, 0, 0x5A}},
		{api.Packet{Count: 16383, Data: []byte{0x5A}}, []byte{0, 0, 0x3F, 0xFF, 0, 0, 0x5A}},
		{api.Packet{Data: []byte{1, 2, 3, 4, 5}}, []byte{0, 0, 0, 0, 0, 4, 1, 2, 3, 4, 5}},
		{
			api.Packet{Command: true, Secondary: true, Apid: 0x2A5, Flags: api.Last, Count: 0x1234, Data: []byte{0xDE, 0xAD, 0xBE}},
			[]byte{0x1A, 0xA5, 0x92, 0x34, 0, 2, 0xDE, 0xAD, 0xBE},
		},
		{
			api.Packet{Command: true, Secondary: true, Apid: 2046, Flags: api.Whole, Count: 16383, Data: []byte{0xFF}},
			[]byte{0x1F, 0xFE, 0xFF, 0xFF, 0, 0, 0xFF},
		},
	} {
		expectEncoded(t, c.p, c.want)
	}
	long := api.Packet{Apid: 3, Flags: api.First, Count: 256, Data: counting(most)}
	expectEncoded(t, long, append([]byte{0, 3, 0x41, 0, 0x0F, 0xF9}, counting(most)...))
	long.Data = long.Data[:257]
	expectEncoded(t, long, append([]byte{0, 3, 0x41, 0, 1, 0}, counting(257)...))
}

// P10.1 to P10.5: commands and telemetry, with and without Secondary, with each of the flags, with short and long data.
func TestOrdinary(t *testing.T) {
	for _, command := range []bool{false, true} {
		for _, secondary := range []bool{false, true} {
			for _, flags := range []int{api.Middle, api.First, api.Last, api.Whole} {
				for _, size := range []int{1, 2, 3, 10, 255, 256, 257, 1000, 2048, most - 1, most} {
					for _, apid := range []int{0, 1, 10, 255, 256, 1024, 2045, 2046} {
						expectValid(t, api.Packet{Command: command, Secondary: secondary, Apid: apid, Flags: flags, Count: 77 * size % 16384, Data: counting(size)})
					}
				}
			}
		}
	}
}

// P10.1, P10.2: each field one below its least value, at its least, at its greatest, one above it, and far outside.
func TestFields(t *testing.T) {
	for _, c := range []struct {
		name     string
		greatest int
		set      func(p *api.Packet, n int)
	}{
		{"Apid", 2046, func(p *api.Packet, n int) { p.Apid = n }},
		{"Flags", 3, func(p *api.Packet, n int) { p.Flags = n }},
		{"Count", 16383, func(p *api.Packet, n int) { p.Count = n }},
	} {
		with := func(n int) api.Packet {
			p := ordinary()
			c.set(&p, n)
			return p
		}
		for _, n := range []int{0, 1, c.greatest - 1, c.greatest} {
			expectValid(t, with(n))
		}
		// Some of these have the bits of a value that is permitted, and more.
		for _, n := range []int{
			-1, -2, -2048, -16384, least, least + 1, c.greatest + 2, 2*c.greatest + 5, 1 << 16, 1<<16 + 1, 1 << 32, 1<<32 + 1,
			-1 << 32, greatest - 1, greatest,
		} {
			expectInvalid(t, with(n))
		}
	}
	for _, n := range []int{2048, 2049, 4095, 4096} {
		p := ordinary()
		p.Apid = n
		expectInvalid(t, p)
	}
	for _, c := range []struct{ flags, count int }{{4, 1}, {5, 1}, {7, 1}, {3, 16384}, {3, 16385}, {3, 32768}, {4, 16384}, {-1, -1}} {
		p := ordinary()
		p.Flags, p.Count = c.flags, c.count
		expectInvalid(t, p)
	}
}

// P10.1, P10.2: every value of every field.
func TestEveryValue(t *testing.T) {
	for apid := range 2047 {
		p := ordinary()
		p.Apid = apid
		expectValid(t, p)
	}
	for count := range 16384 {
		p := ordinary()
		p.Count, p.Flags = count, count%4
		expectValid(t, p)
	}
	data := counting(most)
	for size := 1; size <= most; size++ {
		p := ordinary()
		p.Data = data[:size]
		expectValid(t, p)
	}
}

// P10.1, P10.2: data that are missing or too long, whatever the other fields are.
func TestData(t *testing.T) {
	for _, p := range []api.Packet{ordinary(), {}, idle(1), {Command: true, Secondary: true, Apid: 2046, Flags: 2, Count: 16383}} {
		for _, data := range [][]byte{nil, {}, make([]byte, 0, 50), make([]byte, most+1), make([]byte, 4096), make([]byte, 65536), make([]byte, 65537), make([]byte, 1<<20)} {
			p.Data = data
			expectInvalid(t, p)
		}
		for _, size := range []int{1, 2, most - 1, most} {
			p.Data = make([]byte, size)
			expectValid(t, p)
		}
	}
	p := ordinary()
	for _, size := range []int{most + 1, most + 2, 4095, 4096, 4097, 65535, 65536, 65537} {
		p.Data = counting(size)
		expectInvalid(t, p)
	}
}

// P10.1, P10.2: idle packets, and those that break just one of their conditions.
func TestIdlePackets(t *testing.T) {
	for _, size := range []int{1, 2, 3, 100, most - 1, most} {
		expectValid(t, idle(size))
		for _, change := range []func(p *api.Packet){
			func(p *api.Packet) { p.Command = true },
			func(p *api.Packet) { p.Secondary = true },
			func(p *api.Packet) { p.Flags = api.Middle },
			func(p *api.Packet) { p.Flags = api.First },
			func(p *api.Packet) { p.Flags = api.Last },
			func(p *api.Packet) { p.Flags = 4 },
			func(p *api.Packet) { p.Flags = -1 },
			func(p *api.Packet) { p.Count = 1 },
			func(p *api.Packet) { p.Count = 256 },
			func(p *api.Packet) { p.Count = 16383 },
			func(p *api.Packet) { p.Count = 16384 },
			func(p *api.Packet) { p.Count = -1 },
			func(p *api.Packet) { p.Data[0] = 1 },
			func(p *api.Packet) { p.Data[0] = 0x80 },
			func(p *api.Packet) { p.Data[size/2] = 0xFF },
			func(p *api.Packet) { p.Data[size/2] = 2 },
			func(p *api.Packet) { p.Data[size-1] = 1 },
			func(p *api.Packet) { p.Data[size-1] = 0x80 },
			func(p *api.Packet) {
				*p = api.Packet{Command: true, Secondary: true, Apid: 2047, Count: 9, Data: counting(size)}
			},
		} {
			p := idle(size)
			change(&p)
			expectInvalid(t, p)
			// What is required of idle packets does not concern the others.
			p.Apid = 2046
			if p.Flags >= 0 && p.Flags <= 3 && p.Count >= 0 && p.Count <= 16383 {
				expectValid(t, p)
			} else {
				expectInvalid(t, p)
			}
		}
	}
	for place := range most {
		p := idle(most)
		p.Data[place] = 1
		if packet.Valid(p) {
			t.Fatalf("an idle packet with the byte 1 at %d is valid", place)
		}
		if _, err := packet.Encode(p); err != api.ErrArg {
			t.Fatalf("Encode of an idle packet with the byte 1 at %d = %d", place, err)
		}
	}
}

// P10.1: each combination of fields that are permitted and that are not.
func TestCombinations(t *testing.T) {
	for _, apid := range []int{least, -1, 0, 2046, 2047, 2048, greatest} {
		for _, flags := range []int{least, -1, 0, 1, 3, 4, greatest} {
			for _, count := range []int{least, -1, 0, 1, 16383, 16384, greatest} {
				for _, data := range [][]byte{nil, {0}, {7}, {0, 0}, make([]byte, most), make([]byte, most+1)} {
					for kind := range 4 {
						p := api.Packet{Command: kind%2 == 1, Secondary: kind/2 == 1, Apid: apid, Flags: flags, Count: count, Data: data}
						if valid(p) {
							expectValid(t, p)
						} else {
							expectInvalid(t, p)
						}
					}
				}
			}
		}
	}
}

// P10.2: idle packets of every size, and the sizes beyond.
func TestIdle(t *testing.T) {
	for size := 7; size <= 4096; size++ {
		want := make([]byte, size)
		copy(want, []byte{0x07, 0xFF, 0xC0, 0, byte((size - 7) / 256), byte((size - 7) % 256)})
		got, err := packet.Idle(size)
		if err != api.OK || !bytes.Equal(got, want) {
			t.Fatalf("Idle(%d) = % X, %d, of %d bytes", size, head(got), err, len(got))
		}
		expectEncoded(t, idle(size-6), got)
	}
	for _, size := range []int{
		6, 5, 1, 0, -1, -6, -7, -8, -4096, least, least + 1, least + 6, least + 7, -1 << 32, -1<<32 + 7,
		4097, 4098, 4102, 4103, 65535, 65536, 65542, 65543, 1 << 32, 1<<32 + 7, greatest - 6, greatest - 1, greatest,
	} {
		if b, err := packet.Idle(size); len(b) != 0 || err != api.ErrArg {
			t.Fatalf("Idle(%d) = % X, %d, want nothing, ErrArg", size, head(b), err)
		}
	}
}

// P10.3, P10.4: each bit of the header, set alone.
func TestHeaderBits(t *testing.T) {
	for i := range 48 {
		b := make([]byte, 6+65536)
		b[i/8] = 0x80 >> (i % 8)
		// A byte that is not 0 shows whether the data are those after the header.
		b[6] = 0x5A
		want := api.Packet{Data: []byte{0x5A}}
		var wantErr api.Errno
		switch {
		case i < 3:
			wantErr = api.ErrForm
		case i == 3:
			want.Command = true
		case i == 4:
			want.Secondary = true
		case i < 16:
			want.Apid = 1 << (15 - i)
		case i < 18:
			want.Flags = 1 << (17 - i)
		case i < 32:
			want.Count = 1 << (31 - i)
		case i < 36:
			wantErr = api.ErrLong
		default:
			want.Data = append(want.Data, make([]byte, 1<<(47-i))...)
		}
		if wantErr == api.OK {
			expectPacket(t, b, want)
			expectEncoded(t, want, b[:6+len(want.Data)])
			continue
		}
		expectSize(t, b, 0, wantErr)
		expectSize(t, b[:6], 0, wantErr)
		expectRefused(t, b, wantErr)
		expectRefused(t, b[:6], wantErr)
	}
}

// P10.3, P10.4: nothing, and a header of which bytes are missing, whatever the others are.
func TestShortHeader(t *testing.T) {
	expectSize(t, nil, 0, api.ErrShort)
	expectRefused(t, nil, api.ErrShort)
	for _, full := range [][]byte{
		{0, 0, 0, 0, 0, 0, 0},
		{0x10, 0x0A, 0xC0, 0x01, 0x00, 0x01, 0xAA, 0xBB},
		{0x20, 0, 0, 0, 0, 0, 0},
		{0xFF, 0xFF, 0xFF, 0xFF, 0xFF, 0xFF, 0xFF},
		{0, 0, 0, 0, 0xFF, 0xFF, 0},
		{0x07, 0xFF, 0xC0, 0, 0, 0, 0},
	} {
		for size := range 6 {
			// What lies beyond the end of the argument does not count.
			for _, b := range [][]byte{full[:size], bytes.Clone(full[:size:size])} {
				expectSize(t, b, 0, api.ErrShort)
				expectRefused(t, b, api.ErrShort)
			}
		}
	}
}

// P10.3: every length, with a header alone and with bytes after it.
func TestLengths(t *testing.T) {
	for length := range 65536 {
		want, wantErr := length+7, api.OK
		if length > 4089 {
			want, wantErr = 0, api.ErrLong
		}
		b := []byte{0, 0, 0, 0, byte(length >> 8), byte(length)}
		expectSize(t, b, want, wantErr)
		expectSize(t, append(b, 0xFF), want, wantErr)
		// The other fields of the header have no effect on the length.
		expectSize(t, []byte{0x1F, 0xFF, 0xFF, 0xFF, b[4], b[5], 1, 2, 3}, want, wantErr)
	}
}

// P10.3, P10.4: a length of just 4096 bytes, and one more, with the bytes that it states.
func TestLongest(t *testing.T) {
	b := append([]byte{0, 0, 0, 0, 0x0F, 0xF9}, counting(most+10)...)
	expectSize(t, b, 4096, api.OK)
	expectSize(t, b[:6], 4096, api.OK)
	expectDecode(t, b, api.Packet{Data: counting(most)}, 4096, api.OK)
	expectDecode(t, b[:4097], api.Packet{Data: counting(most)}, 4096, api.OK)
	expectDecode(t, b[:4096], api.Packet{Data: counting(most)}, 4096, api.OK)
	expectRefused(t, b[:4095], api.ErrShort)
	b[5]++
	expectSize(t, b, 0, api.ErrLong)
	for _, size := range []int{6, 7, 4095, 4096, 4097, len(b)} {
		expectSize(t, b[:size], 0, api.ErrLong)
		expectRefused(t, b[:size], api.ErrLong)
	}
}

// P10.3, P10.4: every version but 0.
func TestVersions(t *testing.T) {
	for version := 1; version <= 7; version++ {
		for _, p := range []api.Packet{ordinary(), {Data: []byte{0}}, idle(5), {Secondary: true, Apid: 2046, Data: counting(most)}} {
			b := encoding(p)
			b[0] |= byte(version << 5)
			for _, size := range []int{6, len(b) - 1, len(b)} {
				expectSize(t, b[:size], 0, api.ErrForm)
				expectRefused(t, b[:size], api.ErrForm)
			}
		}
	}
}

// P10.3, P10.4 and the rule First error: more than one fault at once; the first one in the order counts.
func TestFirstError(t *testing.T) {
	const short, form, long, ok = api.ErrShort, api.ErrForm, api.ErrLong, api.OK
	zero := make([]byte, 70000)
	for _, c := range []struct {
		header       []byte
		after        int
		size, decode api.Errno
	}{
		{[]byte{0xFF, 0xFF, 0xFF, 0xFF, 0xFF}, 0, short, short},                // a version and too few bytes
		{[]byte{0x20}, 0, short, short},                                        // the same
		{[]byte{0x07, 0xFF, 0xC0, 0x01, 0xFF}, 0, short, short},                // no idle packet, a length and too few bytes
		{[]byte{0x20, 0, 0, 0, 0xFF, 0xFF}, 0, form, form},                     // a version, a length and no data
		{[]byte{0x20, 0, 0, 0, 0x0F, 0xFA}, 0, form, form},                     // the same
		{[]byte{0xE0, 0, 0, 0, 0xFF, 0xFF}, 65536, form, form},                 // a version and a length
		{[]byte{0x80, 0, 0, 0, 0, 5}, 3, form, form},                           // a version and too few data
		{[]byte{0xFF, 0xFF, 0xFF, 0xFF, 0xFF, 0xFF}, 0, form, form},            // everything
		{[]byte{0x37, 0xFF, 0xC0, 0, 0, 0}, 1, form, form},                     // a version and no idle packet
		{[]byte{0, 0, 0, 0, 0xFF, 0xFF}, 0, long, long},                        // a length and no data
		{[]byte{0, 0, 0, 0, 0x0F, 0xFA}, 4090, long, long},                     // a length and too few data
		{[]byte{0x17, 0xFF, 0, 0x01, 0x0F, 0xFA}, 4091, long, long},            // a length and no idle packet
		{[]byte{0x17, 0xFF, 0, 0x01, 0xFF, 0xFF}, 9, long, long},               // a length, no idle packet and too few data
		{[]byte{0x17, 0xFF, 0xC0, 0, 0, 0}, 0, ok, short},                      // no idle packet and no data
		{[]byte{0x07, 0xFF, 0xC0, 0x01, 0, 9}, 9, ok, short},                   // no idle packet and too few data
		{[]byte{0x0F, 0xFF, 0, 0, 0x0F, 0xF9}, 4089, ok, short},                // the same
		{[]byte{0x1F, 0xFF, 0xC0, 0, 0x0F, 0xF9}, 4090, ok, form},              // no idle packet
		{[]byte{0x1F, 0xFF, 0xFF, 0xFF, 0, 0}, 65536, ok, form},                // no idle packet, and more bytes
		{append([]byte{0x07, 0xFF, 0xC0, 0, 0, 3}, 1, 2, 3), 0, ok, short},     // no zeros, and too few data
		{append([]byte{0x07, 0xFF, 0xC0, 0, 0, 3}, 1, 2, 3, 4), 0, ok, form},   // no zeros
		{append([]byte{0x47, 0xFF, 0xC0, 0, 0, 3}, 1, 2, 3), 0, form, form},    // no zeros, too few data and a version
		{append([]byte{0x07, 0xFF, 0xC0, 0, 0x80, 3}, 1, 2, 3), 0, long, long}, // no zeros, too few data and a length
	} {
		b := append(bytes.Clone(c.header), zero[:c.after]...)
		if got, err := packet.Size(b); err != c.size || err != ok && got != 0 {
			t.Fatalf("Size(% X), of %d bytes, = %d, %d, want the error %d", head(b), len(b), got, err, c.size)
		}
		expectRefused(t, b, c.decode)
	}
}

// P10.4: a header alone, and every number of bytes that is less than the length.
func TestTooFewBytes(t *testing.T) {
	for _, p := range []api.Packet{ordinary(), {Data: []byte{0}}, idle(1), idle(40), {Flags: 1, Count: 16383, Data: counting(300)}} {
		b := encoding(p)
		for size := 6; size < len(b); size++ {
			// Neither do the bytes beyond the end of the argument count, although they would complete the packet.
			for _, start := range [][]byte{b[:size], bytes.Clone(b[:size:size])} {
				expectSize(t, start, len(b), api.OK)
				expectRefused(t, start, api.ErrShort)
			}
		}
		expectDecode(t, b, p, len(b), api.OK)
	}
	for _, size := range []int{7, 100, 4095, 4096} {
		b, _ := packet.Idle(size)
		expectRefused(t, b[:size-1], api.ErrShort)
		expectRefused(t, b[:6], api.ErrShort)
		expectDecode(t, b, idle(size-6), size, api.OK)
	}
}

// P10.3 to P10.5: what follows a packet is ignored, be it nothing, one byte, another packet or many bytes.
func TestFollowing(t *testing.T) {
	packets := []api.Packet{
		ordinary(), idle(1), idle(30), {Data: []byte{0}}, {Data: counting(7)}, {Command: true, Apid: 2046, Data: counting(most)},
		{Secondary: true, Apid: 1, Flags: api.Last, Count: 16383, Data: counting(255)},
	}
	for _, p := range packets {
		follow := [][]byte{nil, {0}, {0xFF}, {0x20, 0, 0, 0, 0, 0, 0}, make([]byte, 10000), counting(70000), bytes.Repeat([]byte{0xFF}, 5000)}
		for _, q := range packets {
			follow = append(follow, encoding(q), encoding(q)[:6])
		}
		for _, after := range follow {
			expectPacket(t, append(encoding(p), after...), p)
		}
	}
}

// P10.4, P10.5: packets in a row are decoded one after the other.
func TestRow(t *testing.T) {
	next := pseudo()
	var row []byte
	var packets []api.Packet
	for i := range 300 {
		p := somePacket(next)
		p.Data = someBytes(next, 1+i%40)
		if !valid(p) {
			p = idle(1 + i%40)
		}
		b, err := packet.Encode(p)
		if err != api.OK {
			t.Fatalf("Encode of %s = %d", show(p), err)
		}
		row, packets = append(row, b...), append(packets, p)
	}
	for _, p := range packets {
		expectPacket(t, row, p)
		row = row[6+len(p.Data):]
	}
	expectRefused(t, row, api.ErrShort)
}

// P10.4: idle packets but for one bit. Bits of the application process make another packet of them, bits of the length
// a longer or a shorter one, and all others break a condition.
func TestIdleBits(t *testing.T) {
	for _, size := range []int{7, 8, 24, 1030, 4096} {
		for i := range 8 * size {
			b, _ := packet.Idle(size)
			b[i/8] ^= 0x80 >> (i % 8)
			switch {
			case i >= 5 && i < 16:
				p := idle(size - 6)
				p.Apid ^= 1 << (15 - i)
				expectPacket(t, b, p)
			case i >= 32 && i < 48:
				expectIdleLength(t, b, (size-7)^1<<(47-i)+7)
			default:
				expectRefused(t, b, api.ErrForm)
			}
		}
	}
}

// expectIdleLength checks what Decode says of an idle packet whose header states the length.
func expectIdleLength(t *testing.T, b []byte, length int) {
	t.Helper()
	switch {
	case length > 4096:
		expectRefused(t, b, api.ErrLong)
		return
	case length > len(b):
		expectRefused(t, b, api.ErrShort)
		b = append(b, make([]byte, length-len(b))...)
	}
	expectDecode(t, b, idle(length-6), length, api.OK)
}

// P10.4, P10.5: the bytes that Decode consumes are the encoding of what it returns, for every first word of a header,
// with each of the flags and some counts.
func TestEveryHeader(t *testing.T) {
	for first := range 65536 {
		for _, second := range []int{0, 1, 0x3FFF, 0x4000, 0x8001, 0xC000, 0xC001, 0xFFFF} {
			b := []byte{byte(first >> 8), byte(first), byte(second >> 8), byte(second), 0, 1, 0, 0, 0}
			p, n, err := packet.Decode(b)
			want, wantSize, wantErr := decoding(b)
			if !same(p, want) || n != wantSize || err != wantErr {
				t.Fatalf("Decode(% X) = %s, %d, %d, want %s, %d, %d", b, show(p), n, err, show(want), wantSize, wantErr)
			}
			if err != api.OK {
				continue
			}
			if again, err := packet.Encode(p); err != api.OK || !bytes.Equal(again, b[:n]) {
				t.Fatalf("Encode(Decode(% X)) = % X, %d", b, again, err)
			}
		}
	}
}

// somePacket returns a packet that follows no rule, mostly a valid one, often at an edge.
func somePacket(next func() uint64) api.Packet {
	pick := func(all int, edges ...int) int {
		if next()%3 == 0 {
			return edges[next()%uint64(len(edges))]
		}
		return int(next() % uint64(all))
	}
	p := api.Packet{Command: next()%2 == 0, Secondary: next()%2 == 0, Apid: pick(2048, 0, 2046, 2047), Flags: pick(4, 0, 3), Count: pick(16384, 0, 16383)}
	p.Data = someBytes(next, pick(60, 1, 2, 256, most))
	if p.Apid == 2047 {
		// Only few packets with this number would be valid otherwise.
		p = idle(len(p.Data))
	}
	switch next() % 30 {
	case 0:
		p.Apid = pick(5000, -1, 2048, least, greatest)
	case 1:
		p.Flags = pick(9, -1, 4, least, greatest)
	case 2:
		p.Count = pick(40000, -1, 16384, least, greatest)
	case 3:
		p.Data = make([]byte, pick(most+20, 0, most+1))
	case 4:
		p.Command, p.Secondary = true, true
	}
	return p
}

// P10.1, P10.2, P10.5: packets chosen without a rule are encoded and decoded again.
func TestAnyPackets(t *testing.T) {
	next := pseudo()
	counts := map[bool]int{}
	for range 20000 {
		p := somePacket(next)
		counts[valid(p)]++
		if !valid(p) {
			expectInvalid(t, p)
			continue
		}
		expectValid(t, p)
		expectPacket(t, append(encoding(p), someBytes(next, int(next()%50))...), p)
	}
	if counts[true] < 1000 || counts[false] < 1000 {
		t.Fatalf("the packets are too much alike: %v", counts)
	}
}

// someInput returns bytes that follow no rule, or an encoding of which a bit or the end is not as it was.
func someInput(next func() uint64) []byte {
	if next()%3 == 0 {
		b := someBytes(next, int(next()%40))
		// Otherwise, nearly all of them would have a wrong version or be too long.
		if len(b) > 5 && next()%8 != 0 {
			b[0], b[4], b[5] = b[0]%32, 0, b[5]%40
		}
		return b
	}
	p := somePacket(next)
	if !valid(p) {
		p = idle(1 + int(next()%50))
	}
	b := append(encoding(p), someBytes(next, int(next()%10))...)
	switch next() % 3 {
	case 0:
		bit := next() % 48
		b[bit/8] ^= 0x80 >> (bit % 8)
	case 1:
		b = b[:next()%uint64(len(b))]
	case 2:
		b[next()%uint64(len(b))] ^= 1 << (next() % 8)
	}
	return b
}

// P10.3 to P10.5: bytes chosen without a rule are answered as the chapter says, and what is decoded is encoded again.
func TestAnyBytes(t *testing.T) {
	next := pseudo()
	counts := map[api.Errno]int{}
	for range 40000 {
		b := someInput(next)
		size, err := stated(b)
		expectSize(t, b, size, err)
		p, n, err := decoding(b)
		expectDecode(t, b, p, n, err)
		counts[err]++
		if err == api.OK {
			expectEncoded(t, p, b[:n])
		}
	}
	for _, err := range []api.Errno{api.OK, api.ErrShort, api.ErrForm, api.ErrLong} {
		if counts[err] < 500 {
			t.Fatalf("the answer %d is too rare: %v", err, counts)
		}
	}
}

// overwrite changes all bytes of b, also those beyond its end that it has room for.
func overwrite(b []byte) {
	b = b[:cap(b)]
	for i := range b {
		b[i] = ^b[i]
	}
}

// The rule Memory, for P10.2: what Encode returned shares no memory with its argument or with another result.
func TestEncodeMemory(t *testing.T) {
	for _, size := range []int{1, 2, 10, 500, most} {
		p := api.Packet{Apid: 5, Flags: api.Whole, Data: append(make([]byte, 0, size+100), counting(size)...)}
		want := encoding(p)
		one, _ := packet.Encode(p)
		two, _ := packet.Encode(p)
		overwrite(one)
		if !bytes.Equal(two, want) || !bytes.Equal(p.Data, counting(size)) {
			t.Fatalf("a change of a result of Encode changed %s or another result", show(p))
		}
		three, _ := packet.Encode(p)
		overwrite(p.Data)
		if !bytes.Equal(two, want) || !bytes.Equal(three, want) {
			t.Fatal("a change of the data changed a result of Encode")
		}
		four, _ := packet.Encode(p)
		if !bytes.Equal(four, encoding(p)) {
			t.Fatal("Encode does not encode the data as they are now")
		}
	}
}

// The rule Memory, for P10.4: the data that Decode returned share no memory with its argument or with another result.
func TestDecodeMemory(t *testing.T) {
	for _, p := range []api.Packet{ordinary(), idle(20), {Count: 3, Data: counting(1)}, {Flags: 1, Data: counting(most)}} {
		size := 6 + len(p.Data)
		start := append(encoding(p), 0x10, 0x0A, 0xC0, 0x01, 0x00, 0x01, 0xAA, 0xBB)
		b := bytes.Clone(start)
		one, _, _ := packet.Decode(b)
		two, _, _ := packet.Decode(b)
		overwrite(one.Data)
		if !bytes.Equal(b, start) || !same(two, p) {
			t.Fatal("a change of the data that Decode returned changed its argument or another result")
		}
		two.Data = append(two.Data, 0xEE)
		if !bytes.Equal(b, start) {
			t.Fatal("bytes that were appended to the data changed what follows the packet")
		}
		three, _, _ := packet.Decode(b)
		overwrite(b)
		if !same(three, p) || !bytes.Equal(two.Data[:size-6], p.Data) {
			t.Fatal("a change of the argument of Decode changed a result")
		}
		overwrite(b)
		expectPacket(t, b, p)
	}
}

// The rule Memory, for P10.2: what Idle returned shares no memory with another result.
func TestIdleMemory(t *testing.T) {
	for _, size := range []int{7, 8, 1000, 4096} {
		one, _ := packet.Idle(size)
		two, _ := packet.Idle(size)
		overwrite(one)
		three, _ := packet.Idle(size)
		if want := encoding(idle(size - 6)); !bytes.Equal(two, want) || !bytes.Equal(three, want) {
			t.Fatalf("a change of a result of Idle(%d) changed another one", size)
		}
	}
}
