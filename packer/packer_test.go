package packer_test

import (
	"bytes"
	"encoding/hex"
	"fmt"
	"math"
	"slices"
	"strings"
	"testing"

	"spacecraft/api"
	"spacecraft/packer"
	"spacecraft/packet"
	"spacecraft/tmframe"
)

const (
	least    = math.MinInt
	greatest = math.MaxInt
	// largest is the greatest size of a data field.
	largest = 1012
	// most is the greatest room.
	most = 1048576
	// none is the first header pointer if no packet begins.
	none = 2047
)

// pseudo returns numbers that follow no simple rule but are the same in every run.
func pseudo(seed uint64) func() uint64 {
	x := seed*2 + 0x9E3779B97F4A7C15
	return func() uint64 {
		x ^= x << 13
		x ^= x >> 7
		x ^= x << 17
		return x >> 20
	}
}

// fromHex returns the bytes of hexadecimal digits, between which there may be spaces.
func fromHex(t *testing.T, digits string) []byte {
	t.Helper()
	b, err := hex.DecodeString(strings.ReplaceAll(digits, " ", ""))
	if err != nil {
		t.Fatalf("%q: %v", digits, err)
	}
	return b
}

// head returns the first bytes of b, which are enough for a message.
func head(b []byte) []byte { return b[:min(len(b), 40)] }

// spoil changes b, and what is behind it in its memory.
func spoil(b []byte) {
	b = b[:cap(b)]
	for i := range b {
		b[i] ^= 0x5A
	}
}

// pack returns the packet of size bytes of the application process apid, with the given count. Its data are no zeros, and none
// of its bytes is equal to its neighbours.
func pack(apid, count, size int) []byte {
	b := make([]byte, size)
	copy(b, []byte{
		byte(8 + apid/256), byte(apid % 256), byte(192 + count/256), byte(count % 256), byte((size - 7) / 256), byte((size - 7) % 256),
	})
	for i := 6; i < size; i++ {
		b[i] = byte(1 + (i*7+i/256+count)%255)
	}
	return b
}

// filler is the idle packet of size bytes.
func filler(size int) []byte {
	b := make([]byte, size)
	copy(b, []byte{7, 255, 192, 0, byte((size - 7) / 256), byte((size - 7) % 256)})
	return b
}

// octet is a byte of a packet.
type octet struct {
	value byte
	// begins tells the first byte of a packet.
	begins bool
}

func octets(b []byte) []octet {
	list := make([]octet, len(b))
	for i, x := range b {
		list[i] = octet{x, i == 0}
	}
	return list
}

// model is a packer that knows of each byte whether a packet begins with it.
type model struct {
	size, room    int
	rest, waiting []octet
}

func newModel(size, room int) *model { return &model{size: size, room: min(max(room, 0), 1048576)} }

func (m *model) clone() *model {
	return &model{m.size, m.room, slices.Clone(m.rest), slices.Clone(m.waiting)}
}

// left is P19.1 of Left.
func (m *model) left() int { return len(m.waiting) }

// ready is P19.3 of Ready.
func (m *model) ready() bool { return len(m.waiting) != 0 && len(m.rest)+len(m.waiting) >= m.size }

// acceptable is the condition for ErrArg of P19.2, computed from the bytes of b.
func acceptable(b []byte) bool {
	if len(b) < 7 || len(b) > 4096 || b[0] >= 32 {
		return false
	}
	return 256*int(b[4])+int(b[5]) == len(b)-7 && 256*int(b[0]%8)+int(b[1]) != 2047
}

// push is P19.2.
func (m *model) push(b []byte) api.Errno {
	if !acceptable(b) {
		return api.ErrArg
	}
	if m.left()+len(b) > m.room {
		return api.ErrFull
	}
	m.waiting = append(m.waiting, octets(b)...)
	return api.OK
}

// next is P19.3 of Next.
func (m *model) next() ([]byte, int, bool) {
	if len(m.waiting) == 0 {
		return nil, 0, false
	}
	stream := slices.Concat(m.rest, m.waiting)
	old := len(m.rest)
	if missing := m.size - len(stream); missing > 0 {
		stream = append(stream, octets(filler(max(missing, 7)))...)
		m.rest, m.waiting = stream[m.size:], nil
	} else {
		m.rest, m.waiting = stream[min(old, m.size):old], stream[max(old, m.size):]
	}
	first := none
	field := make([]byte, m.size)
	for i := m.size - 1; i >= 0; i-- {
		field[i] = stream[i].value
		if stream[i].begins {
			first = i
		}
	}
	return field, first, true
}

// create returns a new Packer.
func create(t *testing.T, size, room int) *packer.Packer {
	t.Helper()
	p := packer.New(size, room)
	if p == nil {
		t.Fatalf("New(%d, %d) is nil", size, room)
	}
	expectState(t, p, 0, false)
	return p
}

// expectState checks Left and Ready, which change nothing.
func expectState(t *testing.T, p *packer.Packer, left int, ready bool) {
	t.Helper()
	for range 2 {
		if got := p.Left(); got != left {
			t.Fatalf("Left() = %d, want %d", got, left)
		}
		if got := p.Ready(); got != ready {
			t.Fatalf("Ready() = %t, want %t, and Left() is %d", got, ready, left)
		}
	}
}

// expectPush checks the answer of Push, that b stays as it is, and Left.
func expectPush(t *testing.T, p *packer.Packer, b []byte, want api.Errno, left int) {
	t.Helper()
	before := bytes.Clone(b)
	if err := p.Push(b); err != want {
		t.Fatalf("Push(% X), of %d bytes, = %d, want %d", head(b), len(b), err, want)
	}
	if !bytes.Equal(b, before) {
		t.Fatalf("Push changed % X to % X", head(before), head(b))
	}
	if got := p.Left(); got != left {
		t.Fatalf("Left() = %d after Push(% X), of %d bytes, want %d", got, head(b), len(b), left)
	}
}

// expectNext checks the answer of Next if there is a data field.
func expectNext(t *testing.T, p *packer.Packer, want []byte, first int) {
	t.Helper()
	field, pointer, ok := p.Next()
	if !bytes.Equal(field, want) || pointer != first || !ok {
		t.Fatalf("Next() = %d bytes, % X, %d, %t, want %d bytes, % X, %d, true",
			len(field), head(field), pointer, ok, len(want), head(want), first)
	}
}

// expectNone checks that nothing waits and that Next returns nothing and changes nothing.
func expectNone(t *testing.T, p *packer.Packer) {
	t.Helper()
	for range 2 {
		expectState(t, p, 0, false)
		if field, pointer, ok := p.Next(); len(field) != 0 || pointer != 0 || ok {
			t.Fatalf("Next() = %d bytes, % X, %d, %t, want 0, 0, false", len(field), head(field), pointer, ok)
		}
	}
	expectState(t, p, 0, false)
}

// run is a Packer with its model and with all that has gone in and come out.
type run struct {
	p        *packer.Packer
	m        *model
	packets  [][]byte
	fields   [][]byte
	pointers []int
}

func start(t *testing.T, size, room int) *run {
	t.Helper()
	return &run{p: create(t, size, room), m: newModel(size, room)}
}

// push pushes b and checks what happens.
func (r *run) push(t *testing.T, b []byte) api.Errno {
	t.Helper()
	want := r.m.push(b)
	expectPush(t, r.p, b, want, r.m.left())
	expectState(t, r.p, r.m.left(), r.m.ready())
	if want == api.OK {
		r.packets = append(r.packets, bytes.Clone(b))
	}
	return want
}

// next takes a data field, or finds that there is none, and checks what happens.
func (r *run) next(t *testing.T) bool {
	t.Helper()
	field, first, ok := r.m.next()
	if !ok {
		expectNone(t, r.p)
		return false
	}
	expectNext(t, r.p, field, first)
	expectState(t, r.p, r.m.left(), r.m.ready())
	r.fields = append(r.fields, field)
	r.pointers = append(r.pointers, first)
	return true
}

// empty takes data fields until nothing waits.
func (r *run) empty(t *testing.T) {
	t.Helper()
	for r.next(t) {
	}
}

func (r *run) clone(t *testing.T) *run {
	t.Helper()
	p := r.p.Clone()
	if p == nil {
		t.Fatal("Clone() is nil")
	}
	expectState(t, p, r.m.left(), r.m.ready())
	return &run{p, r.m.clone(), slices.Clone(r.packets), slices.Clone(r.fields), slices.Clone(r.pointers)}
}

// P19.2, P19.3: the chapter's example.
func TestExample(t *testing.T) {
	p := create(t, 10, 100)
	expectPush(t, p, fromHex(t, "08 01 C0 00 00 01 AA BB"), api.OK, 8)
	expectState(t, p, 8, false)
	expectNext(t, p, fromHex(t, "08 01 C0 00 00 01 AA BB 07 FF"), 0)
	expectNone(t, p)
	expectPush(t, p, fromHex(t, "08 01 C0 01 00 01 CC DD"), api.OK, 8)
	expectState(t, p, 8, true)
	expectNext(t, p, fromHex(t, "C0 00 00 00 00 08 01 C0 01 00"), 5)
	expectState(t, p, 3, false)
	expectNext(t, p, fromHex(t, "01 CC DD 07 FF C0 00 00 00 00"), 3)
	expectNone(t, p)
}

// step is a call and what comes of it: Push of the packet push, or else Next, which returns field and first, or nothing if
// field is empty. left and ready are what Left and Ready return then.
type step struct {
	push  string
	field string
	first int
	left  int
	ready bool
}

// Packets of 7, 8, 9 and 12 bytes.
const (
	seven  = "0801C0000000A1"
	eight  = "0802C0010001B1B2"
	nine   = "0803C0020002C1C2C3"
	twelve = "1804C0030005D1D2D3D4D5D6"
)

// written are plays that are written out.
func written() map[string]struct {
	size  int
	steps []step
} {
	return map[string]struct {
		size  int
		steps []step
	}{
		"a packet fills a data field": {7, []step{
			{push: seven, left: 7, ready: true},
			{field: seven, first: 0},
			{},
			{push: seven, left: 7, ready: true},
			{field: seven, first: 0},
			{},
		}},
		"two packets fill a data field": {16, []step{
			{push: seven, left: 7},
			{push: nine, left: 16, ready: true},
			{field: seven + nine, first: 0},
			{},
		}},
		"a packet ends with a data field and the next one begins with one": {6, []step{
			{push: twelve, left: 12, ready: true},
			{push: seven, left: 19, ready: true},
			{field: "1804C0030005", first: 0, left: 13, ready: true},
			{field: "D1D2D3D4D5D6", first: none, left: 7, ready: true},
			{field: "0801C0000000", first: 0, left: 1},
			{field: "A107FFC00000", first: 1},
			{},
		}},
		"a packet begins with the last byte": {8, []step{
			{push: seven, left: 7},
			{push: twelve, left: 19, ready: true},
			{field: seven + "18", first: 0, left: 11, ready: true},
			{field: "04C0030005D1D2D3", first: none, left: 3},
			{field: "D4D5D607FFC00000", first: 3},
			{},
		}},
		"a packet begins with the last byte, after the end of another one": {5, []step{
			{push: nine, left: 9, ready: true},
			{push: seven, left: 16, ready: true},
			{field: "0803C00200", first: 0, left: 11, ready: true},
			{field: "02C1C2C308", first: 4, left: 6, ready: true},
			{field: "01C0000000", first: none, left: 1},
			{field: "A107FFC000", first: 1},
			{},
		}},
		"several packets in a data field": {40, []step{
			{push: twelve, left: 12},
			{push: seven, left: 19},
			{push: eight, left: 27},
			{push: nine, left: 36},
			{push: seven, left: 43, ready: true},
			{field: twelve + seven + eight + nine + "0801C000", first: 0, left: 3},
			{push: seven, left: 10},
			{push: eight, left: 18},
			{push: nine, left: 27},
			{field: "0000A1" + seven + eight + nine + "07FFC0000006" + "00000000000000", first: 3},
			{},
		}},
		"an idle packet of the exact length": {17, []step{
			{push: seven, left: 7},
			{field: seven + "07FFC000000300000000", first: 0},
			{},
			{push: eight, left: 8},
			{field: eight + "07FFC0000002000000", first: 0},
			{},
			{push: nine, left: 9},
			{field: nine + "07FFC00000010000", first: 0},
			{},
		}},
		"7 bytes are missing": {14, []step{
			{push: seven, left: 7},
			{field: seven + "07FFC000000000", first: 0},
			{},
			{push: seven, left: 7},
			{field: seven + "07FFC000000000", first: 0},
			{},
		}},
		"6 bytes are missing": {13, []step{
			{push: seven, left: 7},
			{field: seven + "07FFC0000000", first: 0},
			{},
			{push: eight, left: 8},
			{field: "00" + eight + "07FFC000", first: 1},
			{},
			{push: eight, left: 8},
			{field: "000000" + eight + "07FF", first: 3},
			{},
			{push: eight, left: 8, ready: true},
			{field: "C000000000" + eight, first: 5},
			{},
		}},
		"1 byte is missing": {8, []step{
			{push: seven, left: 7},
			{field: seven + "07", first: 0},
			{},
			{push: seven, left: 7, ready: true},
			{field: "FFC000000000" + "0801", first: 6, left: 5},
			{field: "C0000000A1" + "07FFC0", first: 5},
			{},
		}},
		"a rest and a packet fill a data field": {15, []step{
			{push: nine, left: 9},
			{field: nine + "07FFC0000000", first: 0},
			{},
			{push: seven, left: 7},
			{push: seven, left: 14, ready: true},
			{field: "00" + seven + seven, first: 1},
			{},
		}},
		"a rest, a packet and an idle packet": {20, []step{
			{push: twelve, left: 12},
			{push: seven, left: 19},
			{field: twelve + seven + "07", first: 0},
			{},
			{push: seven, left: 7},
			{field: "FFC000000000" + seven + "07FFC000000000", first: 6},
			{},
		}},
		"an idle packet begins first, after the end of a packet": {10, []step{
			{push: twelve, left: 12, ready: true},
			{field: "1804C0030005D1D2D3D4", first: 0, left: 2},
			{field: "D5D6" + "07FFC00000010000", first: 2},
			{},
		}},
		"the first bytes of an idle packet begin first": {11, []step{
			{push: nine, left: 9},
			{push: nine, left: 18, ready: true},
			{field: nine + "0803", first: 0, left: 7},
			{field: "C0020002C1C2C3" + "07FFC000", first: 7},
			{},
		}},
		"a rest fills a data field and more": {4, []step{
			{push: nine, left: 9, ready: true},
			{field: "0803C002", first: 0, left: 5, ready: true},
			{field: "0002C1C2", first: none, left: 1},
			{field: "C307FFC0", first: 1},
			{},
			{push: eight, left: 8, ready: true},
			{field: "00000000", first: none, left: 8, ready: true},
			{field: "0802C001", first: 0, left: 4, ready: true},
			{field: "0001B1B2", first: none},
			{},
		}},
		"a rest fills two data fields and a part of the third one": {2, []step{
			{push: seven, left: 7, ready: true},
			{field: "0801", first: 0, left: 5, ready: true},
			{field: "C000", first: none, left: 3, ready: true},
			{field: "0000", first: none, left: 1},
			{field: "A107", first: 1},
			{},
			{push: seven, left: 7, ready: true},
			{field: "FFC0", first: none, left: 7, ready: true},
			{field: "0000", first: none, left: 7, ready: true},
			{field: "0000", first: none, left: 7, ready: true},
			{field: "0801", first: 0, left: 5, ready: true},
		}},
		"a rest of 5 bytes in data fields of 3": {3, []step{
			{push: seven, left: 7, ready: true},
			{field: "0801C0", first: 0, left: 4, ready: true},
			{field: "000000", first: none, left: 1},
			{field: "A107FF", first: 1},
			{},
			{push: eight, left: 8, ready: true},
			{field: "C00000", first: none, left: 8, ready: true},
			{field: "000008", first: 2, left: 7, ready: true},
			{field: "02C001", first: none, left: 4, ready: true},
			{field: "0001B1", first: none, left: 1},
			{field: "B207FF", first: 1},
			{},
		}},
		"data fields of one byte": {1, []step{
			{push: seven, left: 7, ready: true},
			{field: "08", first: 0, left: 6, ready: true},
			{field: "01", first: none, left: 5, ready: true},
			{field: "C0", first: none, left: 4, ready: true},
			{field: "00", first: none, left: 3, ready: true},
			{push: eight, left: 11, ready: true},
			{field: "00", first: none, left: 10, ready: true},
			{field: "00", first: none, left: 9, ready: true},
			{field: "A1", first: none, left: 8, ready: true},
			{field: "08", first: 0, left: 7, ready: true},
			{field: "02", first: none, left: 6, ready: true},
			{field: "C0", first: none, left: 5, ready: true},
			{field: "01", first: none, left: 4, ready: true},
			{field: "00", first: none, left: 3, ready: true},
			{field: "01", first: none, left: 2, ready: true},
			{field: "B1", first: none, left: 1, ready: true},
			{field: "B2", first: none},
			{},
		}},
		"what waits grows while a packet is being taken": {5, []step{
			{push: nine, left: 9, ready: true},
			{field: "0803C00200", first: 0, left: 4},
			{push: seven, left: 11, ready: true},
			{push: eight, left: 19, ready: true},
			{field: "02C1C2C308", first: 4, left: 14, ready: true},
			{field: "01C0000000", first: none, left: 9, ready: true},
			{field: "A10802C001", first: 1, left: 4},
			{field: "0001B1B207", first: 4},
			{},
		}},
	}
}

// P19.1, P19.3: plays that are written out.
func TestWritten(t *testing.T) {
	for name, play := range written() {
		t.Run(name, func(t *testing.T) {
			p := create(t, play.size, 100)
			for i, s := range play.steps {
				switch {
				case s.push != "":
					expectPush(t, p, fromHex(t, s.push), api.OK, s.left)
				case s.field != "":
					expectNext(t, p, fromHex(t, s.field), s.first)
				default:
					expectNone(t, p)
				}
				if p.Left() != s.left || p.Ready() != s.ready {
					t.Fatalf("after the step %d: Left() = %d, Ready() = %t, want %d, %t", i, p.Left(), p.Ready(), s.left, s.ready)
				}
			}
		})
	}
}

// P19.3: the first header pointer where no packet begins is that of tmframe.
func TestNoPacket(t *testing.T) {
	if none != tmframe.NoPacket || largest != api.MaxFrame-tmframe.Overhead {
		t.Fatal("the test takes other values of tmframe for granted")
	}
}

// P19.1: New returns nil for sizes that are not from 1 to 1012, whatever the room is.
func TestNewNil(t *testing.T) {
	for _, size := range []int{
		least, least + 1, -1 << 32, -1<<32 + 1, -1<<32 + 100, -1012, -1011, -256, -10, -7, -2, -1, 0, 1013, 1014, 1023, 1024, 1025,
		2046, 2047, 2048, 4096, 65537, 1 << 32, 1<<32 + 1, 1<<32 + 1012, greatest - 1, greatest,
	} {
		for _, room := range []int{least, -1, 0, 1, 6, 7, 100, most - 1, most, most + 1, greatest} {
			if packer.New(size, room) != nil {
				t.Errorf("New(%d, %d) is not nil", size, room)
			}
		}
	}
}

// P19.1, P19.3: for each size from 1 to 1012, data fields of just that size, for numbers of bytes around a multiple of it.
func TestEverySize(t *testing.T) {
	for size := 1; size <= largest; size++ {
		r := start(t, size, 5000)
		for _, n := range []int{size - 1, size, size + 1, 2*size - 1, 2 * size, 2*size + 1, 3*size + 5} {
			r.push(t, pack(5, n%16384, max(n, 7)))
			r.empty(t)
		}
		if len(r.fields) == 0 || len(r.fields[0]) != size {
			t.Fatal("the test has not taken a data field")
		}
	}
}

// P19.1: a new Packer is empty, whatever the room is and whatever other Packers contain.
func TestNewEmpty(t *testing.T) {
	other := create(t, 10, 100)
	expectPush(t, other, fromHex(t, eight), api.OK, 8)
	for _, size := range []int{1, 2, 7, 10, 1011, 1012} {
		for _, room := range []int{least, -1, 0, 6, 7, most - 1, most, most + 1, greatest} {
			expectNone(t, create(t, size, room))
		}
	}
	expectNext(t, other, fromHex(t, eight+"07FF"), 0)
	p := create(t, 10, 100)
	expectPush(t, p, fromHex(t, seven), api.OK, 7)
	expectNext(t, p, fromHex(t, seven+"07FFC0"), 0)
	expectPush(t, other, fromHex(t, seven), api.OK, 7)
	expectNext(t, other, fromHex(t, "C000000000"+"0801C00000"), 5)
}

// expectRoom checks that exactly room bytes can wait: packets of that many bytes, and not one byte more.
func expectRoom(t *testing.T, p *packer.Packer, room int) {
	t.Helper()
	left := 0
	for i := 0; room-left >= 7; i++ {
		size := min(4000, room-left)
		if end := room - left - size; end > 0 && end < 7 {
			size -= 7
		}
		// One byte more than there is room for, if a packet can be as long.
		if room-left < 4096 {
			expectPush(t, p, pack(1, i%16384, room-left+1), api.ErrFull, left)
		}
		left += size
		expectPush(t, p, pack(1, i%16384, size), api.OK, left)
	}
	for _, size := range []int{7, 8, 100, 4096} {
		expectPush(t, p, pack(1, 0, size), api.ErrFull, left)
	}
	if room >= 7 && left != room {
		t.Fatalf("the test has filled only %d bytes of %d", left, room)
	}
}

// P19.1, P19.2: the room is clamped.
func TestRoom(t *testing.T) {
	for _, c := range []struct{ room, want int }{
		{least, 0}, {least + 1, 0}, {-1 << 32, 0}, {-1<<32 + 100, 0}, {-1048576, 0}, {-100, 0}, {-7, 0}, {-1, 0}, {0, 0}, {1, 1},
		{2, 2}, {6, 6}, {7, 7}, {8, 8}, {13, 13}, {14, 14}, {100, 100}, {1012, 1012}, {4095, 4095}, {4096, 4096}, {4097, 4097},
		{4103, 4103}, {65535, 65535}, {65536, 65536}, {100000, 100000}, {most - 4096, most - 4096}, {most - 7, most - 7},
		{most - 1, most - 1}, {most, most}, {most + 1, most}, {most + 7, most}, {most + 8, most}, {most + 4096, most},
		{2 * most, most}, {1 << 31, most}, {1 << 32, most}, {1<<32 + 100, most}, {greatest - 1, most}, {greatest, most},
	} {
		for _, size := range []int{1, 10, 1012} {
			expectRoom(t, create(t, size, c.room), c.want)
		}
	}
}

// P19.2: every room up to some packets, one byte less and one more.
func TestSmallRooms(t *testing.T) {
	for room := range 60 {
		for size := 7; size <= 60; size++ {
			p := create(t, 10, room)
			if size > room {
				expectPush(t, p, pack(1, 2, size), api.ErrFull, 0)
				expectNone(t, p)
				continue
			}
			expectPush(t, p, pack(1, 2, size), api.OK, size)
			for again := 7; again <= 60; again++ {
				q := p.Clone()
				if size+again > room {
					expectPush(t, q, pack(1, 3, again), api.ErrFull, size)
				} else {
					expectPush(t, q, pack(1, 3, again), api.OK, size+again)
				}
			}
		}
	}
}

// P19.2: bytes that have been taken make room, and the rest needs none.
func TestRoomAgain(t *testing.T) {
	p := create(t, 4, 12)
	expectPush(t, p, fromHex(t, twelve), api.OK, 12)
	expectPush(t, p, fromHex(t, seven), api.ErrFull, 12)
	expectNext(t, p, fromHex(t, "1804C003"), 0)
	expectPush(t, p, fromHex(t, seven), api.ErrFull, 8)
	expectNext(t, p, fromHex(t, "0005D1D2"), none)
	expectPush(t, p, fromHex(t, nine), api.ErrFull, 4)
	expectPush(t, p, fromHex(t, eight), api.OK, 12)
	expectPush(t, p, fromHex(t, seven), api.ErrFull, 12)
	expectNext(t, p, fromHex(t, "D3D4D5D6"), none)
	expectNext(t, p, fromHex(t, "0802C001"), 0)
	expectNext(t, p, fromHex(t, "0001B1B2"), none)
	expectNone(t, p)
	expectPush(t, p, fromHex(t, nine), api.OK, 9)
	expectNext(t, p, fromHex(t, "0803C002"), 0)
	expectNext(t, p, fromHex(t, "0002C1C2"), none)
	expectNext(t, p, fromHex(t, "C307FFC0"), 1)
	// There is a rest of 4 bytes, and still room for 12.
	expectPush(t, p, pack(1, 2, 13), api.ErrFull, 0)
	expectNone(t, p)
	expectPush(t, p, fromHex(t, twelve), api.OK, 12)
	expectPush(t, p, fromHex(t, seven), api.ErrFull, 12)
	expectNext(t, p, fromHex(t, "00000000"), none)
	expectPush(t, p, fromHex(t, seven), api.ErrFull, 12)
	expectNext(t, p, fromHex(t, "1804C003"), 0)

}

// P19.2: each byte of a packet that has been taken makes room for one byte.
func TestRoomByBytes(t *testing.T) {
	p := create(t, 1, 4096)
	expectPush(t, p, pack(1, 2, 4096), api.OK, 4096)
	for taken := range 4096 {
		if taken >= 7 {
			expectPush(t, p.Clone(), pack(1, 3, taken), api.OK, 4096)
		}
		expectPush(t, p, pack(1, 3, max(taken+1, 7)), api.ErrFull, 4096-taken)
		if _, _, ok := p.Next(); !ok {
			t.Fatal("Next() returns nothing")
		}
	}
	expectNone(t, p)
}

// notOne returns arguments that are not exactly one packet, or an idle one.
func notOne(t *testing.T) map[string][]byte {
	t.Helper()
	list := map[string][]byte{
		"nil":                                nil,
		"no bytes":                           {},
		"a byte":                             {8},
		"a header":                           fromHex(t, seven)[:6],
		"a header without its last byte":     fromHex(t, seven)[:5],
		"7 bytes without the last one":       fromHex(t, seven)[:6],
		"12 bytes without the last one":      fromHex(t, twelve)[:11],
		"12 bytes without the first one":     fromHex(t, twelve)[1:],
		"4096 bytes without the last one":    pack(1, 2, 4096)[:4095],
		"7 bytes and one":                    fromHex(t, seven+"00"),
		"4095 bytes and one":                 append(pack(1, 2, 4095), 1),
		"4096 bytes and one":                 append(pack(1, 2, 4096), 1),
		"two packets":                        fromHex(t, seven+eight),
		"a packet twice":                     fromHex(t, eight+eight),
		"a packet and an idle one":           fromHex(t, eight+"07FFC000000000"),
		"an idle packet and another one":     fromHex(t, "07FFC000000000"+eight),
		"a packet and the beginning of one":  fromHex(t, eight+"0801"),
		"4097 bytes":                         pack(1, 2, 4097),
		"4098 bytes":                         pack(1, 2, 4098),
		"65542 bytes":                        pack(1, 2, 65542),
		"65543 bytes with the length 7":      pack(1, 2, 65543),
		"an idle packet that is a command":   fromHex(t, "17FFC000000000"),
		"an idle packet with a second head":  fromHex(t, "0FFFC000000000"),
		"an idle packet with other flags":    fromHex(t, "07FF4000000000"),
		"an idle packet with a count":        fromHex(t, "07FFC001000000"),
		"an idle packet with data":           fromHex(t, "07FFC000000001"),
		"an idle packet with a header of it": fromHex(t, "07FFC0000000"),
	}
	for version := 1; version < 8; version++ {
		b := fromHex(t, eight)
		b[0] |= byte(version << 5)
		list[fmt.Sprintf("the version %d", version)] = b
	}
	for _, size := range []int{7, 8, 9, 10, 12, 13, 100, 1011, 1012, 1013, 4095, 4096} {
		list[fmt.Sprintf("an idle packet of %d bytes", size)] = filler(size)
	}
	return list
}

// P19.2: arguments that are not exactly one packet, or an idle one, are refused with ErrArg, also if there is no room.
func TestPushRefused(t *testing.T) {
	for name, b := range notOne(t) {
		t.Run(name, func(t *testing.T) {
			for _, room := range []int{0, 7, 8, 100, 100000, most} {
				expectPush(t, create(t, 10, room), b, api.ErrArg, 0)
			}
			full := create(t, 10, 8)
			expectPush(t, full, fromHex(t, eight), api.OK, 8)
			expectPush(t, full, fromHex(t, seven), api.ErrFull, 8)
			expectPush(t, full, b, api.ErrArg, 8)
			expectNext(t, full, fromHex(t, eight+"07FF"), 0)
		})
	}
}

// P19.2: a Push that is refused changes nothing, at any place of a play.
func TestRefusedChangesNothing(t *testing.T) {
	bad := notOne(t)
	play := func(disturb bool) string {
		var seen strings.Builder
		p := create(t, 5, 30)
		for i := range 80 {
			if disturb {
				for _, b := range bad {
					expectPush(t, p, b, api.ErrArg, p.Left())
				}
				expectPush(t, p, pack(1, 2, 31), api.ErrFull, p.Left())
				expectPush(t, p, pack(1, 2, max(31-p.Left(), 7)), api.ErrFull, p.Left())
			}
			if i%3 == 0 && p.Left() <= 18 {
				expectPush(t, p, pack(1, i, 7+i%6), api.OK, p.Left()+7+i%6)
			}
			field, first, ok := p.Next()
			fmt.Fprintln(&seen, field, first, ok, p.Left(), p.Ready())
		}
		return seen.String()
	}
	if play(false) != play(true) {
		t.Fatal("a Push that is refused changes something")
	}
}

// P19.2: packets of all kinds are accepted: every length, and every value of the first four bytes but those of idle packets.
func TestPushAccepted(t *testing.T) {
	for size := 7; size <= 4096; size++ {
		p := create(t, largest, 4096)
		expectPush(t, p, pack(1, 2, size), api.OK, size)
		expectState(t, p, size, size >= largest)
	}
	for apid := range 2048 {
		for kind := range 4 {
			for _, flags := range []int{0, 64, 128, 192} {
				b := fromHex(t, seven)
				b[0], b[1], b[2], b[3] = byte(8*kind+apid/256), byte(apid), byte(flags+apid%64), byte(apid/3)
				p := create(t, 7, 7)
				if apid == 2047 {
					expectPush(t, p, b, api.ErrArg, 0)
					continue
				}
				expectPush(t, p, b, api.OK, 7)
				expectNext(t, p, b, 0)
			}
		}
	}
}

// P19.2: what packet.Encode returns is accepted, and what it returns for idle packets is not.
func TestPushEncoded(t *testing.T) {
	for _, x := range []api.Packet{
		{Apid: 0, Flags: api.Middle, Count: 0, Data: []byte{0}},
		{Command: true, Apid: 10, Flags: api.Whole, Count: 1, Data: []byte{0xAA, 0xBB}},
		{Secondary: true, Apid: api.MaxApid, Flags: api.Last, Count: 16383, Data: make([]byte, 4090)},
		{Command: true, Secondary: true, Apid: 1023, Flags: api.First, Count: 255, Data: make([]byte, 1006)},
	} {
		b, err := packet.Encode(x)
		if err != api.OK {
			t.Fatalf("Encode = %d", err)
		}
		r := start(t, 100, 5000)
		if got := r.push(t, b); got != api.OK {
			t.Fatalf("Push = %d", got)
		}
		r.empty(t)
	}
	for size := 7; size <= 4096; size++ {
		b, err := packet.Idle(size)
		if err != api.OK || !bytes.Equal(b, filler(size)) {
			t.Fatalf("Idle(%d) = % X, %d", size, head(b), err)
		}
		expectPush(t, create(t, 100, most), b, api.ErrArg, 0)
	}
}

// P19.3: for many sizes, every number of missing bytes, and then a packet behind what may be a rest.
func TestEveryMissing(t *testing.T) {
	sizes := []int{100, 255, 256, 257, 263, 270, 1000, 1011, 1012}
	for size := 8; size <= 40; size++ {
		sizes = append(sizes, size)
	}
	for _, size := range sizes {
		for missing := 0; size-missing >= 7; missing++ {
			p := create(t, size, 10000)
			b := pack(3, missing, size-missing)
			expectPush(t, p, b, api.OK, len(b))
			expectState(t, p, len(b), missing == 0)
			idle := filler(max(missing, 7))
			expectNext(t, p, append(bytes.Clone(b), idle[:missing]...), 0)
			expectNone(t, p)
			var rest []byte
			if missing > 0 {
				rest = idle[missing:]
			}
			again := pack(4, missing, size+20)
			expectPush(t, p, again, api.OK, len(again))
			expectState(t, p, len(again), true)
			expectNext(t, p, append(bytes.Clone(rest), again...)[:size], len(rest))
			expectState(t, p, 20+len(rest), 20+len(rest) >= size)
		}
	}
}

// P19.3: for every rest of 1 to 6 bytes, and every size, waiting packets that are shorter than, exactly, or longer than what is
// left of the data field.
func TestEveryRest(t *testing.T) {
	for size := 2; size <= 40; size++ {
		for rest := max(1, 8-size); rest <= 6; rest++ {
			// 7 - rest bytes are missing in the last data field of this packet.
			first := pack(5, rest, 10*size+rest-7)
			for length := 7; length <= 2*size+8; length++ {
				r := start(t, size, 1000)
				r.push(t, first)
				r.empty(t)
				if len(r.m.rest) != rest {
					t.Fatalf("the test has a rest of %d bytes instead of %d", len(r.m.rest), rest)
				}
				r.push(t, pack(6, length, length))
				q := r.clone(t)
				r.empty(t)
				r.push(t, pack(7, length, length))
				r.empty(t)
				expectStream(t, r)
				q.push(t, pack(8, length, 7))
				q.empty(t)
				expectStream(t, q)
			}
		}
	}
}

// P19.3: waiting bytes that are exactly size, fewer, and more, in one packet or two, from the beginning and in the middle.
func TestReady(t *testing.T) {
	for size := 7; size <= 40; size++ {
		for length := 7; length <= size+7; length++ {
			p := create(t, size, 1000)
			expectPush(t, p, pack(1, 2, length), api.OK, length)
			expectState(t, p, length, length >= size)
			expectPush(t, p, pack(1, 2, 9), api.OK, length+9)
			expectState(t, p, length+9, length+9 >= size)
			p.Next()
			if left := max(length+9-size, 0); left > 0 {
				expectState(t, p, left, left >= size)
			} else {
				expectNone(t, p)
			}
		}
	}
	// The rest counts, but only if something waits.
	p := create(t, 13, 1000)
	expectPush(t, p, pack(1, 2, 25), api.OK, 25)
	expectState(t, p, 25, true)
	p.Next()
	expectState(t, p, 12, false)
	p.Next()
	expectNone(t, p)
	expectPush(t, p, pack(1, 3, 7), api.OK, 7)
	expectState(t, p, 7, true)
	small := create(t, 5, 1000)
	expectPush(t, small, pack(1, 2, 9), api.OK, 9)
	small.Next()
	expectState(t, small, 4, false)
	small.Next()
	// The rest of 6 bytes would fill a data field.
	expectNone(t, small)
	expectPush(t, small, pack(1, 3, 7), api.OK, 7)
	expectState(t, small, 7, true)
}

// P19.3, P19.4: a packet that is longer than several data fields, from the beginning of one, and in the middle of one.
func TestLongPacket(t *testing.T) {
	for _, size := range []int{1, 2, 3, 5, 6, 7, 8, 10, 100, 1011, 1012} {
		b := pack(9, 1, 4096)
		r := start(t, size, 10000)
		r.push(t, b)
		r.push(t, pack(9, 2, 7))
		for i := range 4096 / size {
			r.next(t)
			want := none
			if i == 0 {
				want = 0
			}
			if r.pointers[i] != want || !bytes.Equal(r.fields[i], b[i*size:i*size+size]) {
				t.Fatalf("size %d: the data field %d is % X, with the pointer %d", size, i, head(r.fields[i]), r.pointers[i])
			}
		}
		r.push(t, b)
		r.empty(t)
		r.push(t, b)
		r.empty(t)
		expectStream(t, r)
	}
}

// P19.3, P19.4: as many bytes as can wait, of the shortest and of the longest packets.
func TestMuchWaits(t *testing.T) {
	for _, length := range []int{7, 4096} {
		p := create(t, largest, most)
		var want []byte
		for i := 0; len(want)+length <= most; i++ {
			want = append(want, pack(1, i%16384, length)...)
		}
		for b := range slices.Chunk(want, length) {
			if err := p.Push(b); err != api.OK {
				t.Fatalf("Push = %d", err)
			}
		}
		var got []byte
		for at := 0; p.Left() > 0; at += largest {
			expectState(t, p, len(want)-at, len(want)-at >= largest)
			field, first, ok := p.Next()
			begins := (at+length-1)/length*length - at
			if begins >= largest {
				begins = none
			}
			if !ok || len(field) != largest || first != begins {
				t.Fatalf("Next() = %d bytes, %d, %t, want %d, %d, true", len(field), first, ok, largest, begins)
			}
			got = append(got, field...)
		}
		expectNone(t, p)
		if !bytes.Equal(got[:len(want)], want) || !bytes.Equal(got[len(want):], filler(len(got)-len(want))) {
			t.Fatal("the data fields differ from the packets")
		}
	}
}

// expectStream checks P19.4 of a run in which nothing waits any more: what the data fields contain, and their pointers.
func expectStream(t *testing.T, r *run) {
	t.Helper()
	if r.p.Left() != 0 {
		t.Fatal("the test has left something")
	}
	stream := slices.Concat(r.fields...)
	// starts are the places where packets begin.
	var starts []int
	packets := r.packets
	for at := 0; at < len(stream); {
		starts = append(starts, at)
		b := stream[at:]
		if len(b) < 7 || bytes.HasPrefix(b, []byte{7, 255}) {
			size := expectIdle(t, b)
			at += size
			continue
		}
		if len(packets) == 0 || !bytes.HasPrefix(b, packets[0]) {
			t.Fatalf("at %d of %d bytes there is % X, and %d packets are missing", at, len(stream), head(b), len(packets))
		}
		at += len(packets[0])
		packets = packets[1:]
	}
	if len(packets) > 0 {
		t.Fatalf("%d packets are missing", len(packets))
	}
	for i, pointer := range r.pointers {
		expectPointer(t, starts, i*r.m.size, r.m.size, pointer)
	}
}

// expectIdle checks that b begins with an idle packet, or is the beginning of the shortest one, and returns its length.
func expectIdle(t *testing.T, b []byte) int {
	t.Helper()
	size := 7
	if len(b) >= 7 {
		size += 256*int(b[4]) + int(b[5])
	}
	if !bytes.HasPrefix(b, filler(size)[:min(size, len(b))]) {
		t.Fatalf("% X does not begin with an idle packet", head(b))
	}
	return size
}

// expectPointer checks the first header pointer of the data field that consists of size bytes from the place from on.
func expectPointer(t *testing.T, starts []int, from, size, pointer int) {
	t.Helper()
	want := none
	if i, _ := slices.BinarySearch(starts, from); i < len(starts) && starts[i] < from+size {
		want = starts[i] - from
	}
	if pointer != want {
		t.Fatalf("the pointer of the data field from %d on is %d, want %d", from, pointer, want)
	}
}

// somePacket returns a packet that follows no rule, or sometimes something that Push refuses.
func somePacket(next func() uint64, longest int) []byte {
	size := 7 + int(next()%uint64(longest-6))
	if next()%3 == 0 {
		size = 7 + int(next()%6)
	}
	b := make([]byte, size)
	for i := range b {
		b[i] = byte(next())
	}
	b[0] %= 32
	b[4], b[5] = byte((size-7)/256), byte((size-7)%256)
	if next()%3 == 0 {
		// It looks like an idle packet.
		copy(b, []byte{7, 254, 192, 0})
		clear(b[6:])
	}
	switch next() % 40 {
	case 0:
		b[0] ^= 128
	case 1:
		b[5]++
	case 2:
		return append(b, 0)
	case 3:
		return b[:len(b)-1]
	case 4:
		return filler(size)
	}
	return b
}

// P19.1 to P19.4: plays chosen without a rule are answered as the chapter says, their data fields contain the packets, and
// clones go ways of their own.
func TestAnyPlay(t *testing.T) {
	next := pseudo(1)
	counts := map[api.Errno]int{}
	fields := 0
	sizes := []int{1, 2, 3, 4, 5, 6, 7, 8, 9, 10, 11, 12, 13, 14, 15, 16, 17, 20, 30, 31, 32, 33, 50, 100, 255, 256, 1011, 1012}
	for i := range 1200 {
		size := sizes[i%len(sizes)]
		r := start(t, size, int(next()%uint64(8*size+60)))
		longest := []int{8, 12, 20, 3*size + 20}[next()%4]
		for range int(next() % 80) {
			switch n := next() % 16; {
			case n < 7:
				counts[r.push(t, somePacket(next, longest))]++
			case n < 14:
				r.next(t)
			case n == 14:
				r.empty(t)
			default:
				q := r.clone(t)
				anyCalls(t, q, next, longest)
				fields += len(q.fields)
				// Either of the two goes on.
				if next()%2 == 0 {
					r = q
				}
			}
		}
		r.empty(t)
		expectStream(t, r)
		fields += len(r.fields)
	}
	for _, err := range []api.Errno{api.OK, api.ErrArg, api.ErrFull} {
		if counts[err] < 1000 {
			t.Fatalf("the answer %d is too rare: %v", err, counts)
		}
	}
	if fields < 20000 {
		t.Fatalf("there are only %d data fields", fields)
	}
}

// anyCalls makes some calls of Push and Next without a rule, and checks in the end what the data fields contain.
func anyCalls(t *testing.T, r *run, next func() uint64, longest int) {
	t.Helper()
	for range int(next() % 12) {
		if next()%2 == 0 {
			r.push(t, somePacket(next, longest))
		} else {
			r.next(t)
		}
	}
	q := r.clone(t)
	q.empty(t)
	expectStream(t, q)
}

// P19.4: data fields that are only taken when they can be filled contain no idle packets.
func TestOnlyReady(t *testing.T) {
	next := pseudo(2)
	for _, size := range []int{1, 2, 6, 7, 10, 33, 1012} {
		r := start(t, size, 5000)
		var want []byte
		for range 200 {
			b := pack(int(next()%2047), int(next()%16384), 7+int(next()%60))
			r.push(t, b)
			want = append(want, b...)
			for r.p.Ready() {
				r.next(t)
			}
		}
		got := slices.Concat(r.fields...)
		if !bytes.Equal(got, want[:len(got)]) || len(want)-len(got) != r.p.Left() || r.p.Left() >= size {
			t.Fatalf("size %d: %d of %d bytes have been taken, and Left() = %d", size, len(got), len(want), r.p.Left())
		}
		r.empty(t)
		expectStream(t, r)
	}
}

// P19.4: the data fields are decoded by package packet.
func TestDecoded(t *testing.T) {
	next := pseudo(3)
	for _, size := range []int{1, 7, 10, 50, 1012} {
		r := start(t, size, 5000)
		for range 100 {
			r.push(t, pack(int(next()%2047), int(next()%16384), 7+int(next()%40)))
			for range int(next() % 4) {
				r.next(t)
			}
		}
		r.empty(t)
		stream := slices.Concat(r.fields...)
		var got [][]byte
		for len(stream) > 0 {
			x, n, err := packet.Decode(stream)
			if err == api.ErrShort && len(stream) < 7 {
				break
			}
			if err != api.OK {
				t.Fatalf("Decode(% X) = %d", head(stream), err)
			}
			if x.Apid != api.IdleApid {
				got = append(got, stream[:n])
			}
			stream = stream[n:]
		}
		if !slices.EqualFunc(got, r.packets, bytes.Equal) {
			t.Fatalf("size %d: the data fields contain %d packets, want %d", size, len(got), len(r.packets))
		}
	}
}

// The rule Determinism: the answers depend on nothing but the calls on the Packer.
func TestSameCalls(t *testing.T) {
	play := func() string {
		next := pseudo(4)
		var seen strings.Builder
		p := create(t, 9, 60)
		for range 1000 {
			if next()%3 == 0 {
				fmt.Fprintln(&seen, p.Push(somePacket(next, 30)), p.Left())
			}
			field, first, ok := p.Next()
			fmt.Fprintln(&seen, field, first, ok, p.Ready())
		}
		return seen.String()
	}
	if play() != play() {
		t.Fatal("the same calls have different results")
	}
}

// The rule Objects: a copy at any place of a play, in the middle of a packet and of a rest too, and its original go on
// independently.
func TestClone(t *testing.T) {
	for _, size := range []int{1, 2, 3, 4, 5, 6, 7, 8, 10, 25} {
		for at := range 60 {
			r := start(t, size, 50)
			for i := range at {
				if i%10 == 0 {
					r.push(t, pack(1, i, 7+i/10*2))
				}
				r.next(t)
			}
			r.push(t, pack(2, at, 12))
			expectCopies(t, r)
		}
	}
}

// expectCopies makes different calls on r and on copies of it, in turns.
func expectCopies(t *testing.T, r *run) {
	t.Helper()
	copied := r.clone(t)
	kept := copied.clone(t)
	for i := range 8 {
		r.push(t, pack(3, i, 8))
		copied.next(t)
		copied.push(t, pack(4, i, 11))
		r.next(t)
	}
	again := kept.clone(t)
	kept.empty(t)
	again.push(t, pack(5, 6, 7))
	for _, x := range []*run{again, r, copied} {
		x.empty(t)
		expectStream(t, x)
	}
	expectStream(t, kept)
}

// P19.1 and the rule Objects: a copy of an empty Packer has the same size, the same room and the same rest.
func TestCloneEmpty(t *testing.T) {
	for _, size := range []int{1, 2, 9, 1012} {
		for _, room := range []int{-5, 0, 6, 7, 20, 5000} {
			q := create(t, size, room).Clone()
			expectNone(t, q)
			expectRoom(t, q, max(room, 0))
		}
	}
	p := create(t, 10, 9)
	expectPush(t, p, fromHex(t, nine), api.OK, 9)
	p.Next()
	q := p.Clone()
	expectNone(t, q)
	expectPush(t, q, fromHex(t, twelve), api.ErrFull, 0)
	expectPush(t, q, fromHex(t, seven), api.OK, 7)
	expectNext(t, q, fromHex(t, "FFC0000000000801C000"), 6)
	expectNone(t, p)
	expectPush(t, p, fromHex(t, eight), api.OK, 8)
	expectNext(t, p, fromHex(t, "FFC0000000000802C001"), 6)
	expectNext(t, q, fromHex(t, "0000A1"+"07FFC000000000"), 3)
}

// expectNothing checks that nothing can be done with p.
func expectNothing(t *testing.T, p *packer.Packer) {
	t.Helper()
	for range 2 {
		for _, b := range [][]byte{nil, {}, {1}, pack(1, 2, 7), pack(1, 2, 4096), filler(7), pack(1, 2, 4097)} {
			expectPush(t, p, b, api.ErrNil, 0)
		}
		expectNone(t, p)
		if p.Clone() != nil {
			t.Fatal("Clone() is not nil")
		}
	}
}

// The rule Nil objects: a nil Packer.
func TestNilPacker(t *testing.T) {
	expectNothing(t, nil)
	expectNothing(t, packer.New(0, 100))
	expectNothing(t, packer.New(1013, 100))
}

// The rule Nil objects: a Packer that New did not return; the calls leave it as it was.
func TestZeroPacker(t *testing.T) {
	var p packer.Packer
	expectNothing(t, &p)
	expectNothing(t, new(packer.Packer))
	expectNothing(t, &p)
}

// The rule Memory: Push changes neither its argument nor the bytes behind it, which may change after the call.
func TestPushNotShared(t *testing.T) {
	for _, size := range []int{1, 3, 7, 8, 10, 100} {
		p := create(t, size, 1000)
		room := make([]byte, 0, 64)
		var want [][]byte
		for i := range 12 {
			b := append(room, pack(1, i, 7+i)...)
			all := b[:cap(b)]
			for j := len(b); j < len(all); j++ {
				all[j] = byte(j)
			}
			kept := bytes.Clone(all)
			expectPush(t, p, b, api.OK, p.Left()+7+i)
			if !bytes.Equal(all, kept) {
				t.Fatal("Push changed the bytes behind its argument")
			}
			want = append(want, bytes.Clone(b))
			spoil(b)
		}
		stream := slices.Concat(want...)
		for len(stream) >= size {
			kept := bytes.Clone(room[:cap(room)])
			field, _, _ := p.Next()
			if !bytes.Equal(field, stream[:size]) {
				t.Fatalf("Next() = % X, want % X", head(field), head(stream[:size]))
			}
			spoil(field)
			if !bytes.Equal(room[:cap(room)], kept) {
				t.Fatal("a change of a data field changed what was pushed")
			}
			stream = stream[size:]
		}
	}
}

// The rule Memory: the argument of a Push that is refused may change after the call.
func TestRefusedNotShared(t *testing.T) {
	p := create(t, 10, 9)
	expectPush(t, p, fromHex(t, nine), api.OK, 9)
	for _, b := range [][]byte{pack(1, 2, 7), pack(1, 2, 8)[:7], filler(20), fromHex(t, seven+eight)} {
		p.Push(b)
		spoil(b)
	}
	expectNext(t, p, fromHex(t, nine+"07"), 0)
	expectNone(t, p)
}

// The rule Memory: a data field that has been returned may change, and a longer one may be made of it, without any effect on
// later ones, on copies and on other Packers; and later calls do not change it.
func TestFieldsNotShared(t *testing.T) {
	next := pseudo(5)
	for i := range 600 {
		size := 1 + i%21
		r := start(t, size, 500)
		var old, kept [][]byte
		for j := range 40 {
			if next()%3 == 0 {
				r.push(t, pack(1, j, 7+int(next()%20)))
			}
			q := r.clone(t)
			want, first, ok := r.m.next()
			field, pointer, got := r.p.Next()
			if !bytes.Equal(field, want) || pointer != first || got != ok {
				t.Fatalf("Next() = % X, %d, %t, want % X, %d, %t", head(field), pointer, got, head(want), first, ok)
			}
			if next()%2 == 0 {
				old, kept = append(old, field), append(kept, want)
			} else {
				spoil(field)
				_ = append(field, 1, 2, 3)
				_ = append(field[:0], make([]byte, size)...)
			}
			if next()%4 == 0 {
				q.empty(t)
			}
		}
		if !slices.EqualFunc(old, kept, bytes.Equal) {
			t.Fatal("a data field has changed after the call that returned it")
		}
		r.empty(t)
	}
	// The idle bytes are those of no other idle packet.
	one, two := create(t, 20, 100), create(t, 20, 100)
	for range 5 {
		for _, p := range []*packer.Packer{one, two} {
			expectPush(t, p, fromHex(t, seven), api.OK, 7)
			q := p.Clone()
			field, _, _ := p.Next()
			if !bytes.Equal(field, fromHex(t, seven+"07FFC0000006"+"00000000000000")) {
				t.Fatalf("Next() = % X", field)
			}
			spoil(field)
			expectNext(t, q, fromHex(t, seven+"07FFC0000006"+"00000000000000"), 0)
		}
	}
}
