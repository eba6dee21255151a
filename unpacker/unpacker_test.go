package unpacker_test

import (
	"bytes"
	"encoding/hex"
	"fmt"
	"math"
	"slices"
	"strings"
	"testing"

	"spacecraft/api"
	"spacecraft/packer"
	"spacecraft/packet"
	"spacecraft/tmframe"
	"spacecraft/unpacker"
)

const (
	least    = math.MinInt
	greatest = math.MaxInt
	// none is the first header pointer if no packet begins, and empty is that of a frame without packet data.
	none  = 2047
	empty = 2046
)

// pseudo returns numbers that follow no simple rule but are the same in every run.
func pseudo(seed uint64) func() uint64 {
	x := seed*2 + 0x9E3779B97F4A7C15
	return func() uint64 {
		x ^= x << 13
		x ^= x >> 7
		x ^= x << 17
		return x >> 20
	}
}

// fromHex returns the bytes of hexadecimal digits, between which there may be spaces.
func fromHex(t *testing.T, digits string) []byte {
	t.Helper()
	b, err := hex.DecodeString(strings.ReplaceAll(digits, " ", ""))
	if err != nil {
		t.Fatalf("%q: %v", digits, err)
	}
	return b
}

// allFromHex returns the bytes of each of the texts.
func allFromHex(t *testing.T, texts []string) [][]byte {
	t.Helper()
	var list [][]byte
	for _, digits := range texts {
		list = append(list, fromHex(t, digits))
	}
	return list
}

// head returns the first bytes of b, which are enough for a message.
func head(b []byte) []byte { return b[:min(len(b), 40)] }

// show returns a message about packets.
func show(packets [][]byte) string {
	var text strings.Builder
	fmt.Fprintf(&text, "%d packets", len(packets))
	for _, b := range packets[:min(len(packets), 8)] {
		fmt.Fprintf(&text, ", % X (%d bytes)", head(b), len(b))
	}
	return text.String()
}

// spoil changes b, and what is behind it in its memory.
func spoil(b []byte) {
	b = b[:cap(b)]
	for i := range b {
		b[i] ^= 0x5A
	}
}

// pack returns the packet of size bytes of the application process apid, with the given count. Its data are no zeros, and none
// of its bytes is equal to its neighbours.
func pack(apid, count, size int) []byte {
	b := make([]byte, size)
	copy(b, []byte{
		byte(8 + apid/256), byte(apid % 256), byte(192 + count/256), byte(count % 256), byte((size - 7) / 256), byte((size - 7) % 256),
	})
	for i := 6; i < size; i++ {
		b[i] = byte(1 + (i*7+i/256+count)%255)
	}
	return b
}

// filler is the idle packet of size bytes.
func filler(size int) []byte {
	b := make([]byte, size)
	copy(b, []byte{7, 255, 192, 0, byte((size - 7) / 256), byte((size - 7) % 256)})
	return b
}

// isIdle tells the Apid 2047 in the header of b.
func isIdle(b []byte) bool { return 256*int(b[0]%8)+int(b[1]) == 2047 }

// stated is the length that the header b states.
func stated(b []byte) int { return 7 + 256*int(b[4]) + int(b[5]) }

// malformed is the chapter's definition for the header b.
func malformed(b []byte) bool { return b[0] >= 32 || stated(b) > 4096 }

// model is an unpacker that keeps to the chapter's words.
type model struct {
	processed bool
	expected  int
	lost      int
	inStep    bool
	rest      []byte
}

func (m *model) clone() *model {
	copied := *m
	copied.rest = bytes.Clone(m.rest)
	return &copied
}

// fitting is the fitting pointer, or -1 if there is none.
func (m *model) fitting(data []byte) int {
	all := slices.Concat(m.rest, data)
	switch {
	case len(data) == 0:
		return none
	case len(m.rest) == 0:
		return 0
	case len(all) < 6:
		return none
	case malformed(all):
		return -1
	case stated(all) < len(all):
		return stated(all) - len(m.rest)
	}
	return none
}

// refused tells the arguments that Take ignores.
func refused(count, first int, data []byte) bool {
	if count < 0 || count > 255 {
		return true
	}
	return first != none && first != empty && (first < 0 || first >= len(data))
}

// take is P20.2.
func (m *model) take(count, first int, data []byte) [][]byte {
	if refused(count, first, data) {
		return nil
	}
	if m.processed && count != m.expected {
		m.lost += (count - m.expected + 256) % 256
		m.inStep = false
	}
	m.processed, m.expected = true, (count+1)%256
	if first == empty {
		return nil
	}
	if m.inStep && first != m.fitting(data) {
		m.inStep = false
	}
	if !m.inStep && first == none {
		return nil
	}
	var stream []byte
	if m.inStep {
		stream = slices.Concat(m.rest, data)
	} else {
		stream = bytes.Clone(data[first:])
	}
	m.inStep = true
	var packets [][]byte
	for len(stream) >= 6 && !malformed(stream) && len(stream) >= stated(stream) {
		if n := stated(stream); !isIdle(stream) {
			packets = append(packets, bytes.Clone(stream[:n]))
		}
		stream = stream[stated(stream):]
	}
	m.rest = bytes.Clone(stream)
	if len(stream) >= 6 && malformed(stream) {
		m.inStep = false
	}
	return packets
}

// create returns a new Unpacker.
func create(t *testing.T) *unpacker.Unpacker {
	t.Helper()
	u := unpacker.New()
	if u == nil {
		t.Fatal("New() is nil")
	}
	expectLost(t, u, 0)
	return u
}

// expectLost checks Lost, which changes nothing.
func expectLost(t *testing.T, u *unpacker.Unpacker, want int) {
	t.Helper()
	for range 2 {
		if got := u.Lost(); got != want {
			t.Fatalf("Lost() = %d, want %d", got, want)
		}
	}
}

// expectTake checks the answer of Take, and that data and what is behind it stay as they are.
func expectTake(t *testing.T, u *unpacker.Unpacker, count, first int, data []byte, want ...[]byte) {
	t.Helper()
	whole := data[:cap(data)]
	before := bytes.Clone(whole)
	got := u.Take(count, first, data)
	if !slices.EqualFunc(got, want, bytes.Equal) {
		t.Fatalf("Take(%d, %d, % X), of %d bytes, = %s, want %s", count, first, head(data), len(data), show(got), show(want))
	}
	if !bytes.Equal(whole, before) {
		t.Fatalf("Take changed % X to % X, or what is behind it", head(before), head(whole))
	}
}

// run is an Unpacker with its model.
type run struct {
	u *unpacker.Unpacker
	m *model
}

func start(t *testing.T) *run {
	t.Helper()
	return &run{create(t), &model{}}
}

func (r *run) clone(t *testing.T) *run {
	t.Helper()
	u := r.u.Clone()
	if u == nil {
		t.Fatal("Clone() is nil")
	}
	expectLost(t, u, r.m.lost)
	return &run{u, r.m.clone()}
}

// take makes a call, checks what happens, and returns the packets.
func (r *run) take(t *testing.T, count, first int, data []byte) [][]byte {
	t.Helper()
	want := r.m.take(count, first, data)
	expectTake(t, r.u, count, first, data, want...)
	expectLost(t, r.u, r.m.lost)
	return want
}

// call is what is passed to Take. The count is relative to the expected one.
type call struct {
	ahead, first int
	data         []byte
}

// completion returns bytes that complete the packet that rest begins, with zeros where its header has not arrived.
func completion(rest []byte) []byte {
	if len(rest) == 0 {
		return nil
	}
	b := slices.Concat(rest, make([]byte, 6))
	return make([]byte, max(stated(b)-len(rest), 0))
}

// probe makes calls on copies that show whether r is in step, what its rest is, and which count it expects.
func (r *run) probe(t *testing.T) {
	t.Helper()
	end := completion(r.m.rest)
	after := len(end)
	both := slices.Concat(end, pack(21, 22, 9), pack(23, 24, 8)[:5])
	plays := [][]call{
		{{0, after, both}, {0, 3, pack(23, 24, 8)[5:]}},
		{{0, after, both}, {0, none, pack(23, 24, 8)[5:]}, {0, 0, pack(25, 26, 7)}},
		{{0, none, end}, {0, 0, pack(27, 28, 10)}},
		{{0, none, nil}, {0, after, both}},
		{{0, empty, both}, {0, after, both}},
		{{0, 0, pack(29, 30, 11)}, {0, 0, pack(29, 31, 12)}},
		{{0, none, pack(32, 33, 7)}, {0, 0, pack(34, 35, 8)}},
		{{1, after, both}, {0, none, pack(23, 24, 8)[5:]}},
		{{1, none, end}, {0, 0, pack(27, 28, 10)}},
		{{255, after, both}},
	}
	if after > 0 {
		// One byte at a time.
		plays = append(plays, []call{{0, none, end[:1]}, {0, max(after-1, 1), both[1:]}})
		plays = append(plays, []call{{0, after - 1, both}}, []call{{0, after + 1, both}})
	}
	for _, play := range plays {
		q := r.clone(t)
		for _, c := range play {
			q.take(t, (q.m.expected+c.ahead)%256, c.first, c.data)
		}
	}
}

// Packets of 7, 8, 9 and 12 bytes, and idle packets of 7 and 10 bytes.
const (
	seven   = "0801C0000000A1"
	eight   = "0802C0010001B1B2"
	nine    = "0803C0020002C1C2C3"
	twelve  = "1804C0030005D1D2D3D4D5D6"
	idle7   = "07FFC000000000"
	idle10  = "07FFC000000300000000"
	longest = "0805C0040FF9"
)

// step is a call of Take, the packets that it returns, and what Lost returns then.
type step struct {
	count, first int
	data         string
	want         []string
	lost         int
}

// expectSteps makes the calls of a play on a new Unpacker, and checks the state after each of them.
func expectSteps(t *testing.T, steps []step) {
	t.Helper()
	r := start(t)
	r.probe(t)
	for i, s := range steps {
		data, want := fromHex(t, s.data), allFromHex(t, s.want)
		if got := r.take(t, s.count, s.first, data); !slices.EqualFunc(got, want, bytes.Equal) {
			t.Fatalf("the step %d: Take(%d, %d, %s) = %s, want %s", i, s.count, s.first, s.data, show(got), show(want))
		}
		if got := r.u.Lost(); got != s.lost {
			t.Fatalf("the step %d: Lost() = %d, want %d", i, got, s.lost)
		}
		r.probe(t)
	}
}

// The chapter's packets P and Q.
const (
	chapterP = "08 01 C0 00 00 00 AA"
	chapterQ = "08 01 C0 01 00 01 BB CC"
)

// P20.2, P20.4: the chapter's examples.
func TestExamples(t *testing.T) {
	p, q := fromHex(t, chapterP), fromHex(t, chapterQ)
	stream := slices.Concat(p, q)
	u := create(t)
	expectTake(t, u, 0, 0, stream[:5])
	expectTake(t, u, 1, 2, stream[5:10], p)
	expectTake(t, u, 2, none, stream[10:], q)
	expectLost(t, u, 0)

	u = create(t)
	expectTake(t, u, 1, 2, stream[5:10])
	expectTake(t, u, 2, none, stream[10:], q)
	expectLost(t, u, 0)

	u = create(t)
	expectTake(t, u, 0, 0, stream[:5])
	expectTake(t, u, 2, none, stream[10:])
	expectLost(t, u, 1)
}

// expectPlays runs each of the plays.
func expectPlays(t *testing.T, plays map[string][]step) {
	t.Helper()
	for name, steps := range plays {
		t.Run(name, func(t *testing.T) { expectSteps(t, steps) })
	}
}

// P20.2: plays without a fault that are written out.
func TestWritten(t *testing.T) {
	expectPlays(t, map[string][]step{
		"a packet in a data field": {
			{0, 0, seven, []string{seven}, 0},
			{1, 0, eight, []string{eight}, 0},
			{2, 0, twelve, []string{twelve}, 0},
		},
		"several packets in a data field": {
			{0, 0, seven + twelve + seven + nine, []string{seven, twelve, seven, nine}, 0},
			{1, 0, seven + seven, []string{seven, seven}, 0},
		},
		"packets extend over two data fields": {
			{0, 0, seven + nine + "1804C003", []string{seven, nine}, 0},
			{1, 8, "0005D1D2D3D4D5D6" + eight + "0801", []string{twelve, eight}, 0},
			{2, none, "C0000000A1", []string{seven}, 0},
		},
		"a packet ends at the last byte": {
			{0, 0, seven + "1804C0030005D1", []string{seven}, 0},
			{1, none, "D2D3D4D5D6", []string{twelve}, 0},
			{2, 0, "0801C0", nil, 0},
			{3, none, "000000A1", []string{seven}, 0},
			{4, 0, nine, []string{nine}, 0},
		},
		"a packet ends one byte before the last one": {
			{0, 0, seven + "1804C0030005D1", []string{seven}, 0},
			{1, 5, "D2D3D4D5D6" + "08", []string{twelve}, 0},
			{2, none, "01C0000000A1", []string{seven}, 0},
		},
		"a packet ends one byte behind the last one": {
			{0, 0, seven + "1804C0030005D1", []string{seven}, 0},
			{1, none, "D2D3D4D5", nil, 0},
			{2, 1, "D6" + seven, []string{twelve, seven}, 0},
		},
		"a packet extends over several data fields": {
			{0, 0, "1804C0030005", nil, 0},
			{1, none, "D1D2", nil, 0},
			{2, none, "D3", nil, 0},
			{3, none, "D4D5", nil, 0},
			{4, 1, "D6" + seven, []string{twelve, seven}, 0},
		},
		"the rest and data have 5 bytes together": {
			{0, 1, "FF" + "0801C0", nil, 0},
			{1, none, "0000", nil, 0},
			{2, 2, "00A1" + seven, []string{seven, seven}, 0},
		},
		"the rest and data have 6 bytes together": {
			{0, 1, "FF" + "0801C0", nil, 0},
			{1, none, "000000", nil, 0},
			{2, 1, "A1" + seven, []string{seven, seven}, 0},
		},
		"the rest and data have 7 bytes together, which are a packet": {
			{0, 1, "FF" + "0801C0", nil, 0},
			{1, none, "000000A1", []string{seven}, 0},
			{2, 0, seven, []string{seven}, 0},
		},
		"the rest and data have 7 bytes together, which are not a packet": {
			{0, 1, "FF" + "0802C0", nil, 0},
			{1, none, "010001B1", nil, 0},
			{2, 1, "B2" + seven, []string{eight, seven}, 0},
		},
		"the rest and data have 8 bytes together": {
			{0, 1, "FF" + "0801C0", nil, 0},
			{1, 4, "000000A1" + "08", []string{seven}, 0},
			{2, none, "01C0000000A1", []string{seven}, 0},
		},
		"a header over several data fields": {
			{0, 6, "FFFFFFFFFFFF" + "08", nil, 0},
			{1, none, "02C0", nil, 0},
			{2, none, "01", nil, 0},
			{3, none, "00", nil, 0},
			{4, none, "01", nil, 0},
			{5, 2, "B1B2" + "0801", []string{eight}, 0},
			{6, none, "C00000", nil, 0},
			{7, none, "00A1", []string{seven}, 0},
		},
		"data fields of one byte": {
			{253, 0, "08", nil, 0},
			{254, none, "01", nil, 0},
			{255, none, "C0", nil, 0},
			{0, none, "00", nil, 0},
			{1, none, "00", nil, 0},
			{2, none, "00", nil, 0},
			{3, none, "A1", []string{seven}, 0},
			{4, 0, "08", nil, 0},
			{5, none, "02", nil, 0},
			{6, none, "C0", nil, 0},
			{7, none, "01", nil, 0},
			{8, none, "00", nil, 0},
			{9, none, "01", nil, 0},
			{10, none, "B1", nil, 0},
			{11, none, "B2", []string{eight}, 0},
			{12, 0, "08", nil, 0},
		},
		"empty data fields": {
			{0, none, "", nil, 0},
			{1, 0, seven, []string{seven}, 0},
			{2, none, "", nil, 0},
			{3, none, "", nil, 0},
			{4, 0, "1804C0030005D1D2", nil, 0},
			{5, none, "", nil, 0},
			{6, 4, "D3D4D5D6" + "08", []string{twelve}, 0},
			{7, none, "", nil, 0},
			{8, none, "02C0010001B1B2", []string{eight}, 0},
			{9, none, "", nil, 0},
		},
		"the first data field begins in the middle of a packet": {
			{9, 4, "D3D4D5D6" + seven + "0802", []string{seven}, 0},
			{10, none, "C0010001B1B2", []string{eight}, 0},
		},
		"no packet begins in the first data fields": {
			{9, none, "D3D4D5D6", nil, 0},
			{10, none, seven, nil, 0},
			{11, 2, "A1A2" + nine, []string{nine}, 0},
		},
	})
}

// P20.2: idle packets are not part of the result, wherever they are.
func TestIdlePackets(t *testing.T) {
	expectPlays(t, map[string][]step{
		"between others": {
			{0, 0, seven + idle7 + eight + idle10 + idle7 + nine + idle7, []string{seven, eight, nine}, 0},
			{1, 0, idle10 + twelve, []string{twelve}, 0},
		},
		"alone": {
			{0, 0, idle7, nil, 0},
			{1, 0, idle10 + idle7, nil, 0},
			{2, 0, seven, []string{seven}, 0},
		},
		"over two data fields": {
			{0, 0, seven + "07FFC0", []string{seven}, 0},
			{1, 7, "00000300000000" + eight + "07", []string{eight}, 0},
			{2, 6, "FFC000000000" + nine, []string{nine}, 0},
		},
		"over several data fields": {
			{0, 0, "07FFC0000003", nil, 0},
			{1, none, "00", nil, 0},
			{2, none, "0000", nil, 0},
			{3, none, "00", nil, 0},
			{4, 0, seven, []string{seven}, 0},
			{5, 0, "07FF", nil, 0},
			{6, none, "C0", nil, 0},
			{7, none, "000000", nil, 0},
			{8, 1, "00" + idle7 + eight, []string{eight}, 0},
		},
		"in data fields of one byte": {
			{0, 0, "07", nil, 0},
			{1, none, "FF", nil, 0},
			{2, none, "C0", nil, 0},
			{3, none, "00", nil, 0},
			{4, none, "00", nil, 0},
			{5, none, "00", nil, 0},
			{6, none, "00", nil, 0},
			{7, 0, "08", nil, 0},
			{8, none, "01C0000000A1", []string{seven}, 0},
		},
		"the identifier alone makes a packet idle": {
			{0, 0, seven + "17FFC000000000" + "0FFFC000000000" + "07FF0000000000" + "07FF4001000000" + eight, []string{seven, eight}, 0},
			{1, 0, "1FFFFFFF000101FF" + nine + "07FFC0000001", []string{nine}, 0},
			{2, 2, "FFFF" + seven, []string{seven}, 0},
		},
		"other identifiers with the same first or second byte": {
			{0, 0, "07FEC000000000" + "06FFC000000000", []string{"07FEC000000000", "06FFC000000000"}, 0},
			{1, 0, "00FFC000000000" + "0700C000000000", []string{"00FFC000000000", "0700C000000000"}, 0},
		},
	})
}

// P20.1, P20.2: counts, and the frames that are missing.
func TestMissing(t *testing.T) {
	expectPlays(t, map[string][]step{
		"one frame is missing, in the middle of a packet": {
			{0, 0, seven + "1804C003", []string{seven}, 0},
			{2, 4, "D3D4D5D6" + eight, []string{eight}, 1},
		},
		"one frame is missing, between packets": {
			{0, 0, seven, []string{seven}, 0},
			{2, 0, eight, []string{eight}, 1},
			{3, 0, nine, []string{nine}, 1},
		},
		"one frame is missing, and no packet begins in the next one": {
			{0, 0, "1804C0030005D1D2", nil, 0},
			{2, none, "D3D4D5D6", nil, 1},
			{3, none, "D3D4D5D6", nil, 1},
			{4, 4, "D3D4D5D6" + seven, []string{seven}, 1},
		},
		"one frame is missing, and the next pointer would be the fitting one": {
			{0, 0, "1804C0030005D1D2", nil, 0},
			{2, 4, "D3D4D5D6" + seven, []string{seven}, 1},
		},
		"two frames are missing": {
			{0, 0, seven + "1804", []string{seven}, 0},
			{3, none, "C003", nil, 2},
			{4, 1, "FF" + eight, []string{eight}, 2},
		},
		"254 frames are missing": {
			{0, 0, "1804C0030005", nil, 0},
			{255, none, "D1D2D3D4D5D6", nil, 254},
			{0, 0, eight, []string{eight}, 254},
		},
		"255 frames are missing": {
			{1, 0, "1804C0030005", nil, 0},
			{1, none, "D1D2D3D4D5D6", nil, 255},
			{2, 0, eight, []string{eight}, 255},
		},
		"a frame comes twice": {
			{17, 0, seven + "1804C003", []string{seven}, 0},
			{17, 0, seven + "1804C003", []string{seven}, 255},
			{18, 8, "0005D1D2D3D4D5D6" + eight, []string{twelve, eight}, 255},
		},
		"a frame comes twice, in which no packet begins": {
			{17, 0, "1804C0030005", nil, 0},
			{18, none, "D1D2", nil, 0},
			{18, none, "D1D2", nil, 255},
			{19, none, "D3D4D5D6", nil, 255},
			{20, 0, seven, []string{seven}, 255},
		},
		"from 255 to 0": {
			{254, 0, "1804C003", nil, 0},
			{255, none, "0005D1D2", nil, 0},
			{0, none, "D3D4D5D6", []string{twelve}, 0},
			{1, 0, seven, []string{seven}, 0},
		},
		"0 is missing": {
			{255, 0, "1804C003", nil, 0},
			{1, none, "0005D1D2D3D4D5D6", nil, 1},
			{2, 0, seven, []string{seven}, 1},
		},
		"255 is missing": {
			{254, 0, "1804C003", nil, 0},
			{0, none, "0005D1D2D3D4D5D6", nil, 1},
			{1, 0, seven, []string{seven}, 1},
		},
		"254 to 1 are missing": {
			{253, 0, "1804C003", nil, 0},
			{2, none, "0005D1D2D3D4D5D6", nil, 4},
			{3, 0, seven, []string{seven}, 4},
		},
		"several gaps": {
			{10, 0, seven, []string{seven}, 0},
			{12, 0, seven, []string{seven}, 1},
			{15, none, "", nil, 3},
			{16, 0, seven + "08", []string{seven}, 3},
			{15, 6, "01C0000000A1" + eight, []string{eight}, 257},
			{16, empty, "", nil, 257},
			{116, none, "FF", nil, 356},
			{117, 0, eight, []string{eight}, 356},
			{117, empty, "", nil, 611},
		},
	})
}

// P20.1, P20.2: the numbers of missing frames of several gaps add up.
func TestLostAddsUp(t *testing.T) {
	r := start(t)
	sum, count := 0, 200
	r.take(t, count, 0, fromHex(t, seven))
	for _, gap := range []int{1, 0, 2, 255, 0, 0, 254, 128, 127, 255, 255, 3, 0, 1} {
		count = (count + 1 + gap) % 256
		sum += gap
		expectTake(t, r.u, count, 0, fromHex(t, seven), fromHex(t, seven))
		expectLost(t, r.u, sum)
		r.m.take(count, 0, fromHex(t, seven))
		r.probe(t)
	}
	// 256 missing frames cannot be noticed.
	expectTake(t, r.u, (count+257)%256, 0, fromHex(t, eight), fromHex(t, eight))
	expectLost(t, r.u, sum)
}

// P20.2: every count after every other one, and every count of a first frame.
func TestEveryDistance(t *testing.T) {
	whole := fromHex(t, twelve)
	for a := range 256 {
		u := create(t)
		expectTake(t, u, a, 0, whole[:5])
		expectLost(t, u, 0)
		for b := range 256 {
			q := u.Clone()
			missing := (b - a + 511) % 256
			if missing == 0 {
				expectTake(t, q, b, none, whole[5:], whole)
			} else {
				expectTake(t, q, b, none, whole[5:])
			}
			expectLost(t, q, missing)
			expectTake(t, q, (b+1)%256, 0, whole, whole)
			expectLost(t, q, missing)
		}
	}
}

// P20.2: frames without packet data.
func TestIdleFrames(t *testing.T) {
	expectPlays(t, map[string][]step{
		"in step, between packets": {
			{0, 0, seven, []string{seven}, 0},
			{1, empty, eight, nil, 0},
			{2, 0, nine, []string{nine}, 0},
		},
		"in step, in the middle of a packet": {
			{0, 0, "1804C003", nil, 0},
			{1, empty, "0005D1D2D3D4D5D6", nil, 0},
			{2, empty, "", nil, 0},
			{3, none, "0005D1D2D3D4D5D6", []string{twelve}, 0},
		},
		"in step, in the middle of a packet whose header has arrived": {
			{0, 0, "1804C0030005D1", nil, 0},
			{1, empty, seven, nil, 0},
			{2, 5, "D2D3D4D5D6" + seven, []string{twelve, seven}, 0},
		},
		"out of step": {
			{0, none, "FF", nil, 0},
			{1, empty, seven, nil, 0},
			{2, none, seven, nil, 0},
			{3, 0, seven, []string{seven}, 0},
		},
		"frames are missing before it": {
			{0, 0, "1804C003", nil, 0},
			{3, empty, "FF", nil, 2},
			{4, none, "0005D1D2D3D4D5D6", nil, 2},
			{5, 0, seven, []string{seven}, 2},
		},
		"frames are missing after it": {
			{0, 0, "1804C003", nil, 0},
			{1, empty, "FF", nil, 0},
			{3, none, "0005D1D2D3D4D5D6", nil, 1},
			{4, 0, seven, []string{seven}, 1},
		},
		"it is itself missing": {
			{0, 0, "1804C003", nil, 0},
			{2, none, "0005D1D2D3D4D5D6", nil, 1},
			{3, 0, seven, []string{seven}, 1},
		},
		"it comes twice": {
			{0, 0, "1804C003", nil, 0},
			{1, empty, "FF", nil, 0},
			{1, empty, "FF", nil, 255},
			{2, none, "0005D1D2D3D4D5D6", nil, 255},
		},
		"it is the first frame": {
			{250, empty, seven, nil, 0},
			{251, none, seven, nil, 0},
			{252, 0, seven, []string{seven}, 0},
		},
		"it is the first frame, and some are missing then": {
			{250, empty, seven, nil, 0},
			{255, 0, seven, []string{seven}, 4},
		},
		"no other": {
			{255, empty, "", nil, 0},
			{0, empty, seven + seven, nil, 0},
			{1, empty, "08", nil, 0},
		},
	})
}

// P20.2: pointers that do not fit.
func TestWrongPointer(t *testing.T) {
	expectPlays(t, map[string][]step{
		"one less, where a packet begins": {
			{0, 0, "1804C0030005D1D2", nil, 0},
			{1, 3, "D3D4D5" + seven, []string{seven}, 0},
			{2, 0, eight, []string{eight}, 0},
		},
		"one less, where none begins": {
			{0, 0, "1804C0030005D1D2", nil, 0},
			{1, 3, "D3D4D5D6" + seven, nil, 0},
			{2, 0, eight, []string{eight}, 0},
		},
		"one more, where a packet begins": {
			{0, 0, "1804C0030005D1D2", nil, 0},
			{1, 5, "D3D4D5D6FF" + seven + "0802C0", []string{seven}, 0},
			{2, none, "010001B1B2", []string{eight}, 0},
		},
		"one more, where none begins": {
			{0, 0, "1804C0030005D1D2", nil, 0},
			{1, 5, "D3D4D5D6" + eight + "00", nil, 0},
			{2, 0, eight, []string{eight}, 0},
		},
		"0 with a rest": {
			{0, 0, "1804C0030005D1D2", nil, 0},
			{1, 0, seven + seven, []string{seven, seven}, 0},
		},
		"0 with a rest that is shorter than a header": {
			{0, 0, "1804C0", nil, 0},
			{1, 0, "0801", nil, 0},
			{2, none, "C0000000A1", []string{seven}, 0},
		},
		"none where there is one": {
			{0, 0, "1804C0030005D1D2", nil, 0},
			{1, none, "D3D4D5D6" + seven, nil, 0},
			{2, none, seven, nil, 0},
			{3, 0, seven, []string{seven}, 0},
		},
		"none where the last byte begins a packet": {
			{0, 0, "1804C0030005D1D2", nil, 0},
			{1, none, "D3D4D5D608", nil, 0},
			{2, none, "01C0000000A1", nil, 0},
			{3, 0, seven, []string{seven}, 0},
		},
		"none with an empty rest": {
			{0, 0, seven, []string{seven}, 0},
			{1, none, seven, nil, 0},
			{2, none, "0801C0000000A1", nil, 0},
			{3, 0, eight, []string{eight}, 0},
		},
		"1 with an empty rest": {
			{0, 0, seven, []string{seven}, 0},
			{1, 1, "FF" + eight, []string{eight}, 0},
			{2, 0, eight, []string{eight}, 0},
		},
		"the last index with an empty rest": {
			{0, 0, seven, []string{seven}, 0},
			{1, 7, seven + "08", nil, 0},
			{2, none, "02C0010001B1B2", []string{eight}, 0},
		},
		"one where none fits, as the packet extends beyond data": {
			{0, 0, "1804C0030005D1", nil, 0},
			{1, 1, "D2" + "0801", nil, 0},
			{2, 5, "C0000000A1" + eight, []string{seven, eight}, 0},
		},
		"one where none fits, as the packet ends with data": {
			{0, 0, "1804C0030005D1", nil, 0},
			{1, 4, "D2D3D4D508", nil, 0},
			{2, none, "01C0000000A1", []string{seven}, 0},
		},
		"one where none fits, as there is no header yet": {
			{0, 0, "1804", nil, 0},
			{1, 2, "C00308", nil, 0},
			{2, none, "01C0000000A1", []string{seven}, 0},
		},
		"one where none fits, as there is only a header": {
			{0, 0, "0801", nil, 0},
			{1, 3, "C0000008", nil, 0},
			{2, none, "01C0000000A1", []string{seven}, 0},
		},
		"with a frame missing": {
			{0, 0, "1804C0030005D1D2", nil, 0},
			{2, 3, "D3D4D5" + seven, []string{seven}, 1},
			{3, 0, eight, []string{eight}, 1},
		},
		"an idle packet is dropped": {
			{0, 0, "07FFC0000003", nil, 0},
			{1, 3, "000000" + seven, []string{seven}, 0},
		},
	})
}

// P20.2: no packet begins while the unpacker is not in step.
func TestNotInStep(t *testing.T) {
	expectPlays(t, map[string][]step{
		"from the beginning": {
			{0, none, seven, nil, 0},
			{1, none, "", nil, 0},
			{2, none, seven + seven, nil, 0},
			{3, none, "08", nil, 0},
			{4, none, "01C0000000A1", nil, 0},
			{5, 1, "A1" + seven + "08", []string{seven}, 0},
			{6, none, "01C0000000A1", []string{seven}, 0},
		},
		"after frames are missing": {
			{0, 0, seven, []string{seven}, 0},
			{2, none, seven, nil, 1},
			{3, none, seven, nil, 1},
			{4, 0, seven, []string{seven}, 1},
		},
		"frames are missing again": {
			{0, none, seven, nil, 0},
			{2, none, seven, nil, 1},
			{4, empty, seven, nil, 2},
			{6, none, "", nil, 3},
			{8, 0, seven, []string{seven}, 4},
		},
	})
}

// P20.2: malformed headers that are written out.
func TestMalformedWritten(t *testing.T) {
	expectPlays(t, map[string][]step{
		"what follows is dropped": {
			{0, 0, "2801C0000000A1" + seven, nil, 0},
			{1, none, seven, nil, 0},
			{2, 0, eight, []string{eight}, 0},
		},
		"an idle packet": {
			{0, 0, "E7FFC000000000" + seven, nil, 0},
			{1, 0, eight, []string{eight}, 0},
		},
		"behind an idle packet": {
			{0, 0, idle7 + "2801C0000000A1", nil, 0},
			{1, 0, eight, []string{eight}, 0},
		},
		"behind a packet": {
			{0, 0, seven + eight + "2801C0000000A1" + nine, []string{seven, eight}, 0},
			{1, none, "A1", nil, 0},
			{2, 0, eight, []string{eight}, 0},
		},
		"behind the end of a packet": {
			{0, 0, "1804C003", nil, 0},
			{1, 8, "0005D1D2D3D4D5D6" + "0801C0000FFA" + seven, []string{twelve}, 0},
			{2, none, "A1", nil, 0},
			{3, 0, eight, []string{eight}, 0},
		},
		"in the rest, and no packet begins": {
			{0, 0, seven + "2801", []string{seven}, 0},
			{1, none, "C0000000A1", nil, 0},
			{2, none, "C0000000A1", nil, 0},
			{3, 0, eight, []string{eight}, 0},
		},
		"in the rest, and a packet begins behind its end": {
			{0, 0, seven + "2801", []string{seven}, 0},
			{1, 5, "C0000000A1" + eight + "0801", []string{eight}, 0},
			{2, none, "C0000000A1", []string{seven}, 0},
		},
		"in the rest, and a packet begins elsewhere": {
			{0, 0, "0801C0000F", nil, 0},
			{1, 1, "FA" + eight, []string{eight}, 0},
			{2, 0, seven, []string{seven}, 0},
		},
		"in the rest, and a packet begins at once": {
			{0, 0, "0801C0000F", nil, 0},
			{1, 0, "FAFBC0000000A1" + seven, nil, 0},
			{2, 0, "0801C0000F", nil, 0},
			{3, 0, seven, []string{seven}, 0},
		},
		"in the rest, over several data fields": {
			{0, 0, "E8", nil, 0},
			{1, none, "01C0", nil, 0},
			{2, none, "00", nil, 0},
			{3, none, "00", nil, 0},
			{4, none, "01", nil, 0},
			{5, none, "A1A2", nil, 0},
			{6, 0, seven, []string{seven}, 0},
		},
		"in the rest, and data are empty": {
			{0, 0, "2801C00000", nil, 0},
			{1, none, "", nil, 0},
			{2, none, "00", nil, 0},
			{3, none, "A1", nil, 0},
			{4, 0, seven, []string{seven}, 0},
		},
		"with the last byte of a header": {
			{0, 0, "0801C0000FF9", nil, 0},
			{2, 0, "0801C0000FFA", nil, 1},
			{3, none, "A1", nil, 1},
			{4, 0, seven, []string{seven}, 1},
		},
		"five bytes are no header": {
			{0, 0, seven + "F8FFFFFFFF", []string{seven}, 0},
			{1, 0, seven, []string{seven}, 0},
		},
	})
}

// malformedHeaders returns headers that are malformed for a single reason.
func malformedHeaders() map[string][]byte {
	list := map[string][]byte{}
	for version := 1; version < 8; version++ {
		for _, size := range []int{7, 12, 4096} {
			b := pack(5, 6, size)[:6]
			b[0] |= byte(version << 5)
			list[fmt.Sprintf("the version %d and the length %d", version, size)] = b
		}
	}
	for _, size := range []int{4097, 4098, 4103, 8192, 32775, 65541, 65542} {
		list[fmt.Sprintf("the length %d", size)] = pack(5, 6, size)[:6]
	}
	list["the version 7 and the length 65542"] = []byte{255, 255, 255, 255, 255, 255}
	return list
}

// P20.2: each header that is malformed for a single reason, at the beginning, behind a packet, and in the rest.
func TestMalformed(t *testing.T) {
	for name, h := range malformedHeaders() {
		t.Run(name, func(t *testing.T) {
			before := fromHex(t, nine)
			for _, more := range []int{0, 1, 6, 7, 20} {
				tail := slices.Concat(h, make([]byte, more))
				r := start(t)
				expectTake(t, r.u.Clone(), 5, 0, tail)
				r.take(t, 5, 0, tail)
				expectOutOfStep(t, r)

				r = start(t)
				expectTake(t, r.u.Clone(), 5, 0, slices.Concat(before, tail), before)
				r.take(t, 5, 0, slices.Concat(before, tail))
				expectOutOfStep(t, r)
				for cut := 1; cut < 6; cut++ {
					expectMalformedRest(t, tail, cut)
				}
			}
		})
	}
}

// expectOutOfStep checks that no data continue the stream, and that the next packet is found.
func expectOutOfStep(t *testing.T, r *run) {
	t.Helper()
	for _, n := range []int{1, 2, 6, 7, 100, 4090, 5000} {
		u := r.u.Clone()
		expectTake(t, u, r.m.expected, none, make([]byte, n))
		expectTake(t, u, (r.m.expected+1)%256, 0, fromHex(t, seven), fromHex(t, seven))
		expectLost(t, u, r.m.lost)
	}
	expectTake(t, r.u.Clone(), r.m.expected, 3, fromHex(t, "FFFFFF"+eight), fromHex(t, eight))
	r.probe(t)
}

// expectMalformedRest checks what happens if the first cut bytes of the header of tail are the rest.
func expectMalformedRest(t *testing.T, tail []byte, cut int) {
	t.Helper()
	r := start(t)
	r.take(t, 255, 0, slices.Concat(fromHex(t, nine), tail[:cut]))
	q := r.clone(t)
	expectTake(t, q.u.Clone(), 0, none, tail[cut:])
	q.take(t, 0, none, tail[cut:])
	expectOutOfStep(t, q)
	// Whatever the pointer is, the stream begins there, also if it is the end of the packet that the header states.
	for first := range len(tail) - cut {
		data := slices.Concat(tail[cut:][:first], fromHex(t, seven))
		if first+cut >= 6 {
			expectTake(t, r.u.Clone(), 0, first, data, fromHex(t, seven))
		}
		q := r.clone(t)
		q.take(t, 0, first, data)
		q.probe(t)
	}
}

// P20.2: the longest packet and the shortest one, in one data field and over several.
func TestLengths(t *testing.T) {
	for _, size := range []int{7, 8, 100, 263, 4094, 4095, 4096} {
		b := pack(1000, 9, size)
		for _, field := range []int{1, 5, 6, 7, 100, 1011, 1012, 4095, 4096, 5000} {
			r := start(t)
			for i, f := range cut([][]byte{b, filler(size), b}, func() int { return field }, 0) {
				r.take(t, i%256, f.first, f.data)
			}
			if q := r.clone(t); len(q.take(t, q.m.expected, 0, fromHex(t, seven))) != 1 || r.m.lost != 0 {
				t.Fatalf("the test is not in step after packets of %d bytes in data fields of %d", size, field)
			}
			expectPackets(t, [][]byte{b, filler(size), b}, field)
		}
	}
	u := create(t)
	expectTake(t, u, 0, 0, fromHex(t, longest))
	data := make([]byte, 4090)
	expectTake(t, u, 1, none, data, slices.Concat(fromHex(t, longest), data))
}

// expectPackets checks that packets in data fields of the given size are returned, but for idle ones.
func expectPackets(t *testing.T, packets [][]byte, size int) {
	t.Helper()
	u := create(t)
	var got, want [][]byte
	for _, f := range cut(packets, func() int { return size }, 77) {
		got = append(got, u.Take(f.count, f.first, f.data)...)
	}
	for _, b := range packets {
		if !isIdle(b) {
			want = append(want, b)
		}
	}
	if !slices.EqualFunc(got, want, bytes.Equal) {
		t.Fatalf("data fields of %d bytes: %s, want %s", size, show(got), show(want))
	}
	expectLost(t, u, 0)
}

// frame is what is passed to Take, and the part of the stream that it contains.
type frame struct {
	count, first int
	data         []byte
	from, to     int
}

// cut puts packets into the data fields of frames, from the given count on. The pointers are those that the chapter of tmframe
// defines.
func cut(packets [][]byte, size func() int, count int) []frame {
	var stream []byte
	var begins []bool
	for _, b := range packets {
		stream = append(stream, b...)
		begins = append(begins, make([]bool, len(b))...)
		begins[len(begins)-len(b)] = true
	}
	var frames []frame
	for from := 0; from < len(stream); {
		to := min(from+size(), len(stream))
		first := slices.Index(begins[from:to], true)
		if first < 0 {
			first = none
		}
		frames = append(frames, frame{count % 256, first, bytes.Clone(stream[from:to]), from, to})
		from = to
		count++
	}
	return frames
}

// P20.2: the pointer that fits is the one of the document, for all rests, data and packets of a few bytes; and every other pointer,
// with each of them.
func TestEveryPointer(t *testing.T) {
	for size := 7; size <= 16; size++ {
		packets := [][]byte{pack(1, 2, size), pack(3, 4, 7), pack(5, 6, 9), pack(7, 8, 7)}
		for rest := 0; rest <= size; rest++ {
			for field := 0; field <= 18; field++ {
				sizes := []int{rest, field, 1000}
				next := func() int {
					n := sizes[0]
					sizes = sizes[1:]
					return n
				}
				frames := cut(packets, next, 30)
				r := start(t)
				// An index is needed for the unpacker to be in step.
				r.take(t, 29, 0, pack(9, 9, 9))
				for _, f := range frames[:2] {
					if fits := r.m.fitting(f.data); f.first != fits {
						t.Fatalf("the fitting pointer of the test is %d, want %d", fits, f.first)
					}
					expectPointers(t, r, f)
					r.take(t, f.count, f.first, f.data)
					r.probe(t)
				}
				last := frames[2]
				if got := r.take(t, last.count, last.first, last.data); len(got) == 0 {
					t.Fatal("the test completes no packet")
				}
			}
		}
	}
}

// expectPointers checks all pointers to bytes of a frame, and some others.
func expectPointers(t *testing.T, r *run, f frame) {
	t.Helper()
	for first := -1; first <= len(f.data)+1; first++ {
		q := r.clone(t)
		q.take(t, f.count, first, f.data)
		if first >= f.first-1 && first <= f.first+1 {
			q.probe(t)
		}
	}
	for _, first := range []int{none, empty, 2045, 2048, least, greatest} {
		q := r.clone(t)
		q.take(t, f.count, first, f.data)
		q.probe(t)
	}
}

// ignored returns arguments that Take ignores. The counts are for an Unpacker that expects count.
func ignored(count int) []frame {
	var list []frame
	fields := [][]byte{nil, {}, {8}, pack(1, 2, 7), pack(1, 2, 20), pack(1, 2, 1012)}
	for _, wrong := range []int{
		-1, 256, 257, least, least + 1, greatest, greatest - 1, -256, count - 256, count + 256, count + 1<<32, count + least,
	} {
		for _, data := range fields {
			for _, first := range []int{0, len(data) - 1, none, empty, -1, len(data)} {
				list = append(list, frame{count: wrong, first: first, data: data})
			}
		}
	}
	for _, data := range fields {
		for _, first := range []int{
			-1, len(data), len(data) + 1, 2045, 2048, 4095, least, least + 1, greatest, greatest - 1, none - 1<<32, none + 1<<32,
			-2046, -2047,
		} {
			list = append(list, frame{count: count, first: first, data: data}, frame{count: (count + 7) % 256, first: first, data: data})
		}
	}
	long := make([]byte, 3000)
	for _, first := range []int{-1, 3000, 3001, greatest, least} {
		list = append(list, frame{count: count, first: first, data: long})
	}
	return list
}

// expectIgnored checks that calls with wrong arguments return nothing, and that the state stays as it is.
func expectIgnored(t *testing.T, r *run) {
	t.Helper()
	for _, f := range ignored(r.m.expected) {
		if !refused(f.count, f.first, f.data) {
			t.Fatalf("the test uses %d, %d, which is permitted", f.count, f.first)
		}
		expectTake(t, r.u, f.count, f.first, f.data)
		expectLost(t, r.u, r.m.lost)
	}
	r.probe(t)
}

// P20.2: a call with a wrong count or a wrong pointer changes nothing, as the first call of all, in step with an empty rest and
// with others, out of step, and after frames are missing.
func TestIgnored(t *testing.T) {
	r := start(t)
	expectIgnored(t, r)
	// The ignored frames were no first frame: this one has any count.
	r.take(t, 100, none, fromHex(t, "FF"))
	expectLost(t, r.u, 0)
	expectIgnored(t, r)
	r.take(t, 101, 1, fromHex(t, "FF"+"18"))
	expectIgnored(t, r)
	r.take(t, 102, none, fromHex(t, "04C003"))
	expectIgnored(t, r)
	r.take(t, 103, none, fromHex(t, "0005D1"))
	expectIgnored(t, r)
	expectTake(t, r.u.Clone(), 104, none, fromHex(t, "D2D3D4D5D6"), fromHex(t, twelve))
	r.take(t, 104, none, fromHex(t, "D2D3D4D5D6"))
	expectIgnored(t, r)
	r.take(t, 105, 0, fromHex(t, "1804C003"))
	r.take(t, 107, none, fromHex(t, "0005"))
	expectIgnored(t, r)
	expectLost(t, r.u, 1)
	r.take(t, 255, 0, fromHex(t, seven+"2801C0000000"))
	expectIgnored(t, r)
	expectLost(t, r.u, 148)
	r.take(t, 0, empty, nil)
	expectIgnored(t, r)
	expectTake(t, r.u, 1, 0, fromHex(t, seven), fromHex(t, seven))
	expectLost(t, r.u, 148)
}

// P20.2: the first frame has any count, also behind a call that is ignored.
func TestFirstFrame(t *testing.T) {
	for count := range 256 {
		for _, first := range []int{none, empty, 0, 1} {
			r := start(t)
			r.take(t, count-256, 0, fromHex(t, seven))
			r.take(t, count+256, 0, fromHex(t, seven))
			r.take(t, (count+9)%256, 8, fromHex(t, eight))
			r.take(t, count, first, fromHex(t, "08"+seven))
			expectLost(t, r.u, 0)
			expectTake(t, r.u.Clone(), (count+1)%256, 0, fromHex(t, seven), fromHex(t, seven))
			r.take(t, (count+3)%256, 0, fromHex(t, seven))
			expectLost(t, r.u, 2)
		}
	}
}

// P20.2: the least and the greatest pointers that are permitted, with data of each kind.
func TestPermittedPointers(t *testing.T) {
	for _, n := range []int{0, 1, 2, 6, 7, 8, 20, 1011, 1012, 2045, 2046} {
		data := make([]byte, n)
		for _, first := range []int{-1, 0, 1, n - 2, n - 1, n, n + 1, none, empty, 2045, 2048} {
			for _, count := range []int{-1, 0, 255, 256} {
				r := start(t)
				r.take(t, count, first, data)
				r.probe(t)
				known := first == none || first == empty || first >= 0 && first < n
				if count < 0 || count > 255 || !known {
					// This is the first frame.
					expectTake(t, r.u, 50, none, nil)
					expectLost(t, r.u, 0)
				} else {
					expectTake(t, r.u, 50, none, nil)
					expectLost(t, r.u, (50-count+511)%256)
				}
			}
		}
	}
	if none != tmframe.NoPacket || empty != tmframe.Idle {
		t.Fatal("the test takes other values of tmframe for granted")
	}
}

// P20.2: data that are longer than those of any frame. The pointers tmframe.Idle and tmframe.NoPacket mean the same with them.
func TestLongData(t *testing.T) {
	for _, first := range []int{2044, 2045, 2048, 2049, 2992} {
		data := slices.Concat(make([]byte, first), fromHex(t, seven), make([]byte, 3000-first-7))
		r := start(t)
		expectTake(t, r.u, 3, first, data[:first+7], fromHex(t, seven))
		expectTake(t, r.u, 5, first, data[:first+7], fromHex(t, seven))
		// A packet before it makes the pointer fit.
		before := pack(1, 2, first+10)
		expectTake(t, r.u, 6, 0, before[:10])
		expectTake(t, r.u, 7, first, slices.Concat(before[10:], fromHex(t, seven)), before, fromHex(t, seven))
	}
	for _, first := range []int{2046, 2047} {
		data := slices.Concat(make([]byte, first), fromHex(t, seven))
		u := create(t)
		expectTake(t, u, 3, first, data)
		expectTake(t, u, 4, none, fromHex(t, seven))
		expectTake(t, u, 5, 0, fromHex(t, seven), fromHex(t, seven))
	}
	before := pack(1, 2, 2057)
	u := create(t)
	expectTake(t, u, 3, 0, before[:10])
	expectTake(t, u, 4, 2047, slices.Concat(before[10:], fromHex(t, seven)), before, fromHex(t, seven))
}

// P20.2: the result is empty if nothing is completed.
func TestNothing(t *testing.T) {
	u := create(t)
	for _, f := range []frame{
		{count: 0, first: none}, {count: 1, first: empty}, {count: 2, first: none, data: fromHex(t, seven)},
		{count: 3, first: 0, data: fromHex(t, twelve)[:11]}, {count: 4, first: none}, {count: 5, first: empty, data: fromHex(t, seven)},
		{count: 7, first: 0, data: fromHex(t, idle7)}, {count: 8, first: 0, data: fromHex(t, idle7+idle10)},
		{count: 9, first: 0, data: fromHex(t, "FFFFFFFFFFFF")}, {count: 300, first: 0, data: fromHex(t, seven)},
		{count: 10, first: 7, data: fromHex(t, seven)},
	} {
		if got := u.Take(f.count, f.first, f.data); len(got) != 0 {
			t.Fatalf("Take(%d, %d, % X) = %s, want none", f.count, f.first, f.data, show(got))
		}
	}
}

// due is P20.4: for each frame, the packets that it completes if the frames with taken are taken.
func due(packets [][]byte, frames []frame, taken []bool) [][][]byte {
	list := make([][][]byte, len(frames))
	at := 0
	i := 0
	for _, b := range packets {
		for frames[i].to <= at {
			i++
		}
		at += len(b)
		complete := taken[i]
		j := i
		for frames[j].to < at {
			j++
			complete = complete && taken[j]
		}
		if complete && !isIdle(b) {
			list[j] = append(list[j], b)
		}
	}
	return list
}

// expectDue takes those of the frames that are to be taken, and checks P20.4 and Lost. It returns how many packets there were.
func expectDue(t *testing.T, packets [][]byte, frames []frame, taken []bool) int {
	t.Helper()
	u := create(t)
	want := due(packets, frames, taken)
	n, missing, lost := 0, 0, 0
	begun := false
	for i, f := range frames {
		if !taken[i] {
			missing++
			continue
		}
		if begun {
			lost += missing
		}
		missing, begun = 0, true
		expectTake(t, u, f.count, f.first, f.data, want[i]...)
		expectLost(t, u, lost)
		n += len(want[i])
	}
	return n
}

// somePackets returns well-formed packets, some of which are idle, and some of which look so.
func somePackets(next func() uint64, n, most int) [][]byte {
	packets := make([][]byte, n)
	for i := range packets {
		size := 7 + int(next()%uint64(most-6))
		switch next() % 6 {
		case 0:
			packets[i] = filler(size)
		case 1:
			packets[i] = filler(size)
			packets[i][1] = 254
		case 2:
			packets[i] = filler(size)
			packets[i][6] = byte(next())
		default:
			packets[i] = pack(int(next()%2047), int(next()%16384), size)
			packets[i][0] = packets[i][0]%8 + byte(next()%4*8)
			packets[i][2] = byte(next())
		}
	}
	return packets
}

// withIdle puts frames without packet data between others, and numbers all of them again.
func withIdle(next func() uint64, frames []frame, count int) []frame {
	var list []frame
	for _, f := range frames {
		for next()%5 == 0 {
			list = append(list, frame{first: empty, data: pack(1, 2, 7+int(next()%9)), from: f.from, to: f.from})
		}
		list = append(list, f)
	}
	for i := range list {
		list[i].count = (count + i) % 256
	}
	return list
}

// leftOut chooses which of n frames are taken. At most 255 consecutive ones are not.
func leftOut(next func() uint64, n int) []bool {
	taken := make([]bool, n)
	often := 1 + next()%40
	for i := 0; i < n; i++ {
		if next()%often == 0 && often > 1 {
			gap := []int{1, 1, 1, 2, 3, 5, 254, 255}[next()%8]
			i += min(gap, 1+n/4)
		}
		if i < n {
			taken[i] = true
		}
	}
	return taken
}

// P20.4: well-formed packets in data fields of sizes from 1 on, with frames left out.
func TestFramesLeftOut(t *testing.T) {
	next := pseudo(1)
	returned, out := 0, 0
	for i := range 1500 {
		most := []int{7, 9, 14, 40, 300, 4096}[i%6]
		count := int(next() % 256)
		packets := somePackets(next, 1+int(next()%uint64(20+1000/most)), most)
		longest := 1 + int(next()%uint64(max(2*most, 20)))
		size := func() int { return 1 + int(next()%uint64(longest)) }
		if next()%2 == 0 {
			size = func() int { return longest }
		}
		frames := cut(packets, size, count)
		if next()%2 == 0 {
			frames = withIdle(next, frames, count)
		}
		taken := leftOut(next, len(frames))
		for _, is := range taken {
			if !is {
				out++
			}
		}
		returned += expectDue(t, packets, frames, taken)
	}
	if returned < 5000 || out < 5000 {
		t.Fatalf("there are only %d packets, and %d frames are left out", returned, out)
	}
}

// P20.4: data fields of each size from 1 on, with each frame left out, and each pair of frames.
func TestEachFrameLeftOut(t *testing.T) {
	packets := [][]byte{
		pack(1, 2, 7), pack(3, 4, 12), filler(8), pack(5, 6, 9), pack(7, 8, 7), filler(7), filler(13), pack(9, 10, 30), pack(11, 12, 7),
	}
	for size := 1; size <= 105; size++ {
		frames := cut(packets, func() int { return size }, 250)
		for a := range frames {
			for b := a; b < len(frames); b++ {
				taken := slices.Repeat([]bool{true}, len(frames))
				taken[a], taken[b] = false, false
				expectDue(t, packets, frames, taken)
			}
		}
		expectDue(t, packets, frames, slices.Repeat([]bool{true}, len(frames)))
		expectPackets(t, packets, size)
	}
}

// P20.4: every number of consecutive frames from 1 to 255 is left out, at every place of a packet.
func TestEveryGap(t *testing.T) {
	next := pseudo(2)
	packets := somePackets(next, 60, 12)
	frames := cut(packets, func() int { return 1 }, 3)
	for gap := 1; gap <= 255; gap++ {
		for from := 0; from <= 12; from++ {
			taken := slices.Repeat([]bool{true}, len(frames))
			clear(taken[from : from+gap])
			expectDue(t, packets, frames, taken)
		}
	}
}

// P20.4: the same stream in data fields of other sizes contains the same packets.
func TestOtherSizes(t *testing.T) {
	next := pseudo(3)
	for _, most := range []int{7, 10, 40, 4096} {
		packets := somePackets(next, 40, most)
		for size := 1; size <= 60; size++ {
			expectPackets(t, packets, size)
		}
		for _, size := range []int{100, 255, 256, 257, 1011, 1012, 2045, 5000, 200000} {
			expectPackets(t, packets, size)
		}
		for range 50 {
			frames := cut(packets, func() int { return 1 + int(next()%uint64(next()%100+1)) }, int(next()%256))
			expectDue(t, packets, frames, slices.Repeat([]bool{true}, len(frames)))
		}
	}
}

// packed returns frames that package packer fills, and all packets that are in them, idle ones too.
func packed(t *testing.T, next func() uint64, size int) ([][]byte, []frame) {
	t.Helper()
	p := packer.New(size, 100000)
	var frames []frame
	var stream []byte
	for i := range 40 {
		if err := p.Push(pack(int(next()%2047), i, 7+int(next()%uint64(2*size+20)))); err != api.OK {
			t.Fatalf("Push = %d", err)
		}
		for next()%3 != 0 {
			data, first, ok := p.Next()
			if !ok {
				// Where nothing waits, there may be a frame without packet data.
				data, first = make([]byte, size), empty
			}
			from := len(stream)
			if ok {
				stream = append(stream, data...)
			}
			frames = append(frames, frame{len(frames) % 256, first, data, from, len(stream)})
		}
	}
	for p.Left() > 0 {
		data, first, _ := p.Next()
		frames = append(frames, frame{len(frames) % 256, first, data, len(stream), len(stream) + len(data)})
		stream = append(stream, data...)
	}
	return packetsOf(t, stream), frames
}

// packetsOf returns the complete packets that stream consists of.
func packetsOf(t *testing.T, stream []byte) [][]byte {
	t.Helper()
	var packets [][]byte
	for len(stream) > 0 {
		_, n, err := packet.Decode(stream)
		if err == api.ErrShort {
			break
		}
		if err != api.OK {
			t.Fatalf("Decode(% X) = %d", head(stream), err)
		}
		packets = append(packets, stream[:n])
		stream = stream[n:]
	}
	return packets
}

// P20.4: the data fields and pointers of package packer, with frames left out.
func TestPacked(t *testing.T) {
	next := pseudo(4)
	returned := 0
	for i := range 300 {
		size := []int{1, 2, 5, 6, 7, 8, 10, 13, 30, 50, 100, 255, 1012}[i%13]
		packets, frames := packed(t, next, size)
		if n := expectDue(t, packets, frames, slices.Repeat([]bool{true}, len(frames))); n != 40 {
			t.Fatalf("%d packets are returned, want 40", n)
		}
		returned += expectDue(t, packets, frames, leftOut(next, len(frames)))
	}
	if returned < 2000 {
		t.Fatalf("there are only %d packets", returned)
	}
}

// disturbed changes a frame, and sometimes makes it one that is refused.
func disturbed(next func() uint64, f frame) frame {
	f.data = bytes.Clone(f.data)
	switch next() % 14 {
	case 0:
		f.first = none
	case 1:
		f.first = empty
	case 2:
		f.first++
	case 3:
		f.first--
	case 4:
		f.first = 0
	case 5:
		f.first = int(next() % uint64(len(f.data)+2))
	case 6:
		f.count = (f.count + int(next()%4)) % 256
	case 7:
		f.count = (f.count + 255) % 256
	case 8:
		f.count += 256
	case 9:
		f.data = nil
	case 10:
		f.data = f.data[:next()%uint64(len(f.data)+1)]
	case 11:
		f.data = append(f.data, byte(next()))
	default:
		if len(f.data) > 0 {
			f.data[next()%uint64(len(f.data))] ^= byte(1 << (next() % 8))
		}
	}
	return f
}

// P20.1 to P20.3: plays chosen without a rule, of frames that are missing, repeated and changed, are answered as the chapter says,
// and clones go ways of their own.
func TestAnyPlay(t *testing.T) {
	next := pseudo(5)
	returned, out, in := 0, 0, 0
	for i := range 3000 {
		packets := somePackets(next, 30, []int{7, 9, 14, 40}[i%4])
		for range next() % 3 {
			// A malformed packet.
			b := packets[next()%30]
			b[[]int{0, 4}[next()%2]] |= byte(128 >> (next() % 3))
		}
		longest := 1 + next()%50
		frames := withIdle(next, cut(packets, func() int { return int(next() % (longest + 1)) }, 0), int(next()%256))
		often := 2 + next()%30
		r := start(t)
		for _, f := range frames {
			if next()%often == 0 {
				f = disturbed(next, f)
			}
			if next()%often == 0 {
				continue
			}
			if next()%16 == 0 {
				r.probe(t)
				q := r.clone(t)
				q.take(t, int(next()%256), f.first, f.data)
				q.probe(t)
			}
			returned += len(r.take(t, f.count, f.first, f.data))
			if r.m.inStep {
				in++
			} else {
				out++
			}
		}
	}
	if returned < 10000 || out < 10000 || in < 10000 {
		t.Fatalf("there are only %d packets, in step after %d calls and out of step after %d", returned, in, out)
	}
}

// P20.2: bytes without a rule.
func TestAnyBytes(t *testing.T) {
	next := pseudo(6)
	for range 3000 {
		r := start(t)
		count := int(next() % 256)
		for range 20 {
			data := make([]byte, next()%12)
			for i := range data {
				data[i] = []byte{0, 0, 0, 0, 1, 7, 255, byte(next())}[next()%8]
			}
			first := []int{0, 0, 1, 2, none, none, empty, len(data) - 1, r.m.fitting(data), int(next() % 12)}[next()%10]
			r.take(t, count, first, data)
			count = (count + 1 + int(next()%8/7)) % 256
		}
		r.probe(t)
	}
}

// The rule Determinism: the answers depend on nothing but the calls on the Unpacker.
func TestSameCalls(t *testing.T) {
	play := func() string {
		next := pseudo(7)
		var seen strings.Builder
		u := create(t)
		for _, f := range cut(somePackets(next, 300, 20), func() int { return 1 + int(next()%20) }, 0) {
			if next()%9 == 0 {
				f = disturbed(next, f)
			}
			fmt.Fprintln(&seen, u.Take(f.count, f.first, f.data), u.Lost())
		}
		return seen.String()
	}
	if play() != play() {
		t.Fatal("the same calls have different results")
	}
}

// P20.3, the rule Objects: a copy at any place of a play, in the middle of a packet and out of step too, and its original go on
// independently.
func TestClone(t *testing.T) {
	next := pseudo(8)
	packets := somePackets(next, 40, 20)
	for _, size := range []int{1, 2, 3, 5, 6, 7, 8, 10, 25} {
		frames := cut(packets, func() int { return size }, 9)
		for at := range min(60, len(frames)-5) {
			r := start(t)
			for i, f := range frames[:at] {
				if i%13 != 12 {
					r.take(t, f.count, f.first, f.data)
				}
			}
			kept := r.clone(t)
			copied := kept.clone(t)
			for i, f := range frames[at : at+5] {
				// They differ in what they get, and take turns.
				r.take(t, f.count, f.first, f.data)
				other := disturbed(next, f)
				copied.take(t, other.count, other.first, other.data)
				copied.take(t, other.count+i, 0, pack(1, i, 9))
			}
			again := kept.clone(t)
			kept.probe(t)
			for _, f := range frames[at:] {
				kept.take(t, f.count, f.first, f.data)
			}
			again.probe(t)
			copied.probe(t)
			r.probe(t)
		}
	}
}

// P20.3: a copy in the middle of a packet, out of step, and before the first frame.
func TestCloneWritten(t *testing.T) {
	u := create(t)
	before := u.Clone()
	expectTake(t, u, 7, 0, fromHex(t, "1804C003"))
	middle := u.Clone()
	expectTake(t, u, 8, none, fromHex(t, "0005FF"))
	expectTake(t, middle, 8, none, fromHex(t, "0005D1D2D3"))
	expectTake(t, u, 9, none, fromHex(t, "EEEEEEEEEE"), fromHex(t, "1804C0030005FFEEEEEEEEEE"))
	expectTake(t, middle, 9, none, fromHex(t, "D4D5D6"), fromHex(t, twelve))
	expectTake(t, u, 12, none, fromHex(t, seven))
	out := u.Clone()
	expectLost(t, u, 2)
	expectLost(t, out, 2)
	expectLost(t, middle, 0)
	expectTake(t, u, 13, 0, fromHex(t, "0801C0"))
	expectTake(t, out, 13, none, fromHex(t, "000000A1"))
	expectTake(t, u, 14, none, fromHex(t, "000000A1"), fromHex(t, seven))
	expectTake(t, out, 15, none, fromHex(t, "000000A1"))
	expectLost(t, u, 2)
	expectLost(t, out, 3)
	// The copy from the beginning has processed no frame.
	expectTake(t, before, 200, none, fromHex(t, "0005D1D2D3D4D5D6"))
	expectLost(t, before, 0)
	expectTake(t, before, 201, 0, fromHex(t, seven), fromHex(t, seven))
	expectTake(t, before, 203, 0, fromHex(t, seven), fromHex(t, seven))
	expectLost(t, before, 1)
	expectTake(t, middle, 10, 0, fromHex(t, seven), fromHex(t, seven))
	expectLost(t, middle, 0)
}

// P20.1: a new Unpacker is not in step and has processed no frame, whatever others have done.
func TestNew(t *testing.T) {
	other := create(t)
	expectTake(t, other, 7, 0, fromHex(t, "1804C003"))
	u := create(t)
	expectTake(t, u.Clone(), 8, none, fromHex(t, "0005D1D2D3D4D5D6"))
	expectTake(t, u, 100, none, fromHex(t, seven))
	expectLost(t, u, 0)
	expectTake(t, u, 102, none, fromHex(t, seven))
	expectLost(t, u, 1)
	expectLost(t, other, 0)
	expectTake(t, other, 8, none, fromHex(t, "0005D1D2D3D4D5D6"), fromHex(t, twelve))
}

// expectNoUnpacker checks that nothing can be done with u.
func expectNoUnpacker(t *testing.T, u *unpacker.Unpacker) {
	t.Helper()
	for count := range 5 {
		for _, first := range []int{0, none, empty, -1, 7} {
			for _, data := range [][]byte{nil, {}, {8}, fromHex(t, seven), fromHex(t, seven+eight)} {
				expectTake(t, u, 3*count, first, data)
			}
		}
		expectLost(t, u, 0)
		if u.Clone() != nil {
			t.Fatal("Clone() is not nil")
		}
	}
}

// The rule Nil objects: a nil Unpacker.
func TestNilUnpacker(t *testing.T) {
	expectNoUnpacker(t, nil)
}

// The rule Nil objects: an Unpacker that New did not return; the calls leave it as it was.
func TestZeroUnpacker(t *testing.T) {
	var u unpacker.Unpacker
	expectNoUnpacker(t, &u)
	expectNoUnpacker(t, new(unpacker.Unpacker))
	expectNoUnpacker(t, &u)
}

// The rule Memory: data may change after the call, and what has been returned stays as it is.
func TestDataNotShared(t *testing.T) {
	next := pseudo(9)
	for _, most := range []int{7, 12, 40, 400} {
		packets := somePackets(next, 60, most)
		for _, size := range []int{1, 2, 3, 5, 6, 7, 8, 12, 20, 50, 500, 5000} {
			u := create(t)
			memory := make([]byte, size+5000)
			frames := cut(packets, func() int { return size }, 0)
			want := due(packets, frames, slices.Repeat([]bool{true}, len(frames)))
			var got [][][]byte
			for i, f := range frames {
				// All of the data are in the same memory, with room behind them.
				data := memory[i%5 : i%5 : size+i%7+30]
				data = append(data, f.data...)
				got = append(got, u.Take(f.count, f.first, data))
				spoil(memory)
			}
			for i, packets := range got {
				if !slices.EqualFunc(packets, want[i], bytes.Equal) {
					t.Fatalf("data fields of %d bytes: %s, want %s", size, show(packets), show(want[i]))
				}
			}
		}
	}
}

// The rule Memory: what is retained of the data with which an Unpacker comes into step may change after the call, too.
func TestFirstDataNotShared(t *testing.T) {
	for cut := 1; cut < 12; cut++ {
		u := create(t)
		data := slices.Concat(fromHex(t, "FFFF"), fromHex(t, twelve))[:2+cut]
		expectTake(t, u, 0, 2, data)
		spoil(data)
		copied := u.Clone()
		data = fromHex(t, twelve+seven)[cut:]
		expectTake(t, u, 1, 12-cut, data, fromHex(t, twelve), fromHex(t, seven))
		spoil(data)
		expectTake(t, copied, 1, none, fromHex(t, twelve)[cut:], fromHex(t, twelve))
	}
}

// expectSeparate changes each packet of a result, and what is behind it in its memory, and checks that the others, and data, stay
// as they are.
func expectSeparate(t *testing.T, packets [][]byte, data []byte) {
	t.Helper()
	var kept [][]byte
	for _, b := range packets {
		kept = append(kept, bytes.Clone(b))
	}
	before := bytes.Clone(data)
	for i, b := range packets {
		spoil(b)
		_ = append(b, 1, 2, 3)
		for j, other := range packets {
			if j != i && !bytes.Equal(other, kept[j]) {
				t.Fatalf("a change of the packet %d changed the packet %d", i, j)
			}
		}
		copy(b, kept[i])
	}
	for _, b := range packets {
		spoil(b)
	}
	if !bytes.Equal(data, before) {
		t.Fatal("a change of a packet changed data")
	}
}

// The rule Memory: packets that have been returned, and the slice of them, may change without any effect on each other, on later
// results, on data, on copies and on other Unpackers; and later calls do not change them.
func TestPacketsNotShared(t *testing.T) {
	next := pseudo(10)
	for i := range 400 {
		packets := somePackets(next, 40, []int{7, 9, 20, 60}[i%4])
		longest := 1 + next()%100
		frames := cut(packets, func() int { return 1 + int(next()%longest) }, 0)
		want := due(packets, frames, slices.Repeat([]bool{true}, len(frames)))
		u := create(t)
		var old, kept [][][]byte
		for j, f := range frames {
			copied := u.Clone()
			got := u.Take(f.count, f.first, f.data)
			if !slices.EqualFunc(got, want[j], bytes.Equal) {
				t.Fatalf("Take(%d, %d, % X) = %s, want %s", f.count, f.first, head(f.data), show(got), show(want[j]))
			}
			if next()%2 == 0 {
				old, kept = append(old, got), append(kept, want[j])
			} else {
				expectSeparate(t, got, f.data)
				clear(got[:cap(got)])
			}
			expectTake(t, copied, f.count, f.first, f.data, want[j]...)
		}
		for j := range old {
			if !slices.EqualFunc(old[j], kept[j], bytes.Equal) {
				t.Fatal("a result has changed after the call that returned it")
			}
		}
	}
}

// The rule Memory: the packets of one call, the rest behind them, and a copy of it.
func TestRestNotShared(t *testing.T) {
	u := create(t)
	data := fromHex(t, seven+eight+"1804C0")
	got := u.Take(0, 0, data)
	copied := u.Clone()
	expectSeparate(t, got, data)
	spoil(data)
	data = fromHex(t, "030005D1")
	expectTake(t, u, 1, none, data)
	spoil(data)
	expectTake(t, copied, 1, none, fromHex(t, "EEEEEEEE"))
	data = fromHex(t, "D2D3D4D5D6"+nine)
	got = u.Take(2, 5, data)
	if !slices.EqualFunc(got, [][]byte{fromHex(t, twelve), fromHex(t, nine)}, bytes.Equal) {
		t.Fatalf("Take = %s", show(got))
	}
	expectSeparate(t, got, data)
	expectTake(t, u, 3, 0, fromHex(t, seven), fromHex(t, seven))
}
