package link_test

import (
	"bytes"
	"fmt"
	"math"
	"slices"
	"strings"
	"testing"

	"spacecraft/api"
	"spacecraft/link"
)

const (
	least    = math.MinInt
	greatest = math.MaxInt
	// lastTime is MaxTime.
	lastTime = 1099511627776
)

// pseudo returns numbers that follow no simple rule but are the same in every run.
func pseudo(seed uint64) func() uint64 {
	x := seed*2 + 0x9E3779B97F4A7C15
	return func() uint64 {
		x ^= x << 13
		x ^= x >> 7
		x ^= x << 17
		return x >> 20
	}
}

// sample returns n bytes that differ from those of other seeds.
func sample(seed, n int) []byte {
	list := make([]byte, n)
	for i := range list {
		list[i] = byte(seed*37 + i*11 + 5)
	}
	return list
}

// copyOf returns a configuration that shares no memory with c.
func copyOf(c api.LinkConfig) api.LinkConfig {
	return api.LinkConfig{
		Delay:   c.Delay,
		Outages: slices.Clone(c.Outages),
		Lost:    slices.Clone(c.Lost),
		Flips:   slices.Clone(c.Flips),
	}
}

// model is a link that keeps to the chapter's words, and every transmission there ever was.
type model struct {
	config api.LinkConfig
	time   int
	all    []*transmission
}

// transmission is a byte string with its bits one by one, and with what became of it.
type transmission struct {
	bits           []int
	arrival        int
	lost, returned bool
}

func newModel(c api.LinkConfig) *model { return &model{config: copyOf(c)} }

func (m *model) clone() *model {
	c := &model{config: m.config, time: m.time}
	for _, x := range m.all {
		copied := *x
		c.all = append(c.all, &copied)
	}
	return c
}

func (m *model) advance(now int) {
	if now > m.time && now >= 0 && now <= lastTime {
		m.time = now
	}
}

// interrupted reports whether the time of m is in an outage.
func (m *model) interrupted() bool {
	for _, r := range m.config.Outages {
		if m.time >= r.From && m.time <= r.To-1 && r.To > r.From {
			return true
		}
	}
	return false
}

func (m *model) send(now int, b []byte) {
	m.advance(now)
	x := &transmission{arrival: m.time + m.config.Delay, lost: m.interrupted()}
	for _, n := range m.config.Lost {
		x.lost = x.lost || n == len(m.all)
	}
	for _, c := range b {
		for i := 7; i >= 0; i-- {
			x.bits = append(x.bits, int(c)>>i&1)
		}
	}
	for _, f := range m.config.Flips {
		if f.Index == len(m.all) && len(b) > 0 {
			n := f.Bit % len(x.bits)
			x.bits[n] = 1 - x.bits[n]
		}
	}
	m.all = append(m.all, x)
}

// content returns the bytes of x.
func (x *transmission) content() []byte {
	list := make([]byte, len(x.bits)/8)
	for i, b := range x.bits {
		list[i/8] = 2*list[i/8] + byte(b)
	}
	return list
}

func (m *model) receive(now int) [][]byte {
	m.advance(now)
	var list [][]byte
	for _, x := range m.all {
		if !x.lost && !x.returned && x.arrival <= m.time {
			x.returned = true
			list = append(list, x.content())
		}
	}
	return list
}

func (m *model) pending() int {
	n := 0
	for _, x := range m.all {
		if !x.lost && !x.returned {
			n++
		}
	}
	return n
}

// create returns a new link.
func create(t *testing.T, c api.LinkConfig) *link.Link {
	t.Helper()
	l, err := link.New(c)
	if l == nil || err != api.OK {
		t.Fatalf("New(%v) = %v, %d", c, l, err)
	}
	return l
}

// clone returns a copy of l.
func clone(t *testing.T, l *link.Link) *link.Link {
	t.Helper()
	c := l.Clone()
	if c == nil || c == l {
		t.Fatal("Clone() is nil or its own link")
	}
	return c
}

func expectRefused(t *testing.T, c api.LinkConfig) {
	t.Helper()
	if l, err := link.New(c); l != nil || err != api.ErrArg {
		t.Fatalf("New(%v) = %v, %d, want nil, ErrArg", c, l, err)
	}
}

func expectSend(t *testing.T, l *link.Link, now int, b ...byte) {
	t.Helper()
	if err := l.Send(now, b); err != api.OK {
		t.Fatalf("Send(%d, % x) = %d", now, b, err)
	}
}

// expectReceive checks what Receive returns. The byte strings of want are written as text.
func expectReceive(t *testing.T, l *link.Link, now int, want ...string) {
	t.Helper()
	got := l.Receive(now)
	if !slices.EqualFunc(got, want, func(g []byte, w string) bool { return string(g) == w }) {
		t.Fatalf("Receive(%d) = %x, want %x", now, got, want)
	}
}

// expectState checks what Sent and Pending return, which change nothing.
func expectState(t *testing.T, l *link.Link, sent, pending int) {
	t.Helper()
	for range 2 {
		if got := l.Sent(); got != sent {
			t.Fatalf("Sent() = %d, want %d", got, sent)
		}
		if got := l.Pending(); got != pending {
			t.Fatalf("Pending() = %d, want %d", got, pending)
		}
	}
}

// expectDelivered checks that b, sent alone by the link of c, arrives as want.
func expectDelivered(t *testing.T, c api.LinkConfig, b []byte, want string) {
	t.Helper()
	l := create(t, c)
	expectSend(t, l, 0, b...)
	expectReceive(t, l, c.Delay, want)
	expectState(t, l, 1, 0)
}

// play is a link with its model.
type play struct {
	l *link.Link
	m *model
}

func start(t *testing.T, c api.LinkConfig) *play {
	t.Helper()
	p := &play{create(t, c), newModel(c)}
	p.expectState(t)
	return p
}

func (p *play) clone(t *testing.T) *play {
	t.Helper()
	return &play{clone(t, p.l), p.m.clone()}
}

// expectState checks that p.l is as p.m.
func (p *play) expectState(t *testing.T) {
	t.Helper()
	expectState(t, p.l, len(p.m.all), p.m.pending())
}

// send calls Send and checks what happens.
func (p *play) send(t *testing.T, now int, b []byte) {
	t.Helper()
	p.m.send(now, b)
	expectSend(t, p.l, now, b...)
	p.expectState(t)
}

// receive calls Receive, checks what happens, and returns what Receive returns.
func (p *play) receive(t *testing.T, now int) [][]byte {
	t.Helper()
	want := p.m.receive(now)
	got := p.l.Receive(now)
	if !slices.EqualFunc(got, want, bytes.Equal) {
		t.Fatalf("New(%v): Receive(%d) = %x, want %x", p.m.config, now, got, want)
	}
	p.expectState(t)
	return got
}

// P23.1, P23.2, P23.3: the chapter's example.
func TestExample(t *testing.T) {
	l := create(t, api.LinkConfig{
		Delay:   5,
		Outages: []api.Range{{From: 10, To: 20}},
		Lost:    []int{1},
		Flips:   []api.Flip{{Index: 2, Bit: 0}},
	})
	expectState(t, l, 0, 0)
	expectSend(t, l, 0, 1)
	expectSend(t, l, 1, 1)
	expectSend(t, l, 2, 1)
	expectState(t, l, 3, 2)
	expectReceive(t, l, 4)
	expectReceive(t, l, 5, "\x01")
	expectReceive(t, l, 6)
	expectReceive(t, l, 7, "\x81")
	expectState(t, l, 3, 0)
	expectSend(t, l, 12, 1)
	expectState(t, l, 4, 0)
	expectReceive(t, l, 17)
	expectReceive(t, l, lastTime)
	expectState(t, l, 4, 0)

	l = create(t, api.LinkConfig{
		Delay:   5,
		Outages: []api.Range{{From: 10, To: 20}},
		Lost:    []int{1},
		Flips:   []api.Flip{{Index: 2, Bit: 0}},
	})
	for _, now := range []int{0, 1, 2, 12} {
		expectSend(t, l, now, 1)
	}
	expectState(t, l, 4, 2)
	expectReceive(t, l, 12, "\x01", "\x81")
	expectReceive(t, l, lastTime)
	expectState(t, l, 4, 0)
}

// P23.2, P23.3, P23.5: a play that is written out, with a delay only.
func TestDelayPlay(t *testing.T) {
	l := create(t, api.LinkConfig{Delay: 10})
	expectReceive(t, l, 0)
	expectSend(t, l, 3, []byte("one")...)
	expectSend(t, l, 3, []byte("two")...)
	expectSend(t, l, 5, []byte("three")...)
	expectState(t, l, 3, 3)
	expectReceive(t, l, 12)
	expectState(t, l, 3, 3)
	expectReceive(t, l, 13, "one", "two")
	expectState(t, l, 3, 1)
	expectReceive(t, l, 13)
	expectSend(t, l, 14, []byte("four")...)
	expectReceive(t, l, 14)
	expectReceive(t, l, 15, "three")
	expectState(t, l, 4, 1)
	expectSend(t, l, 20, []byte("five")...)
	expectReceive(t, l, 23)
	expectReceive(t, l, 1000, "four", "five")
	expectState(t, l, 5, 0)
	expectReceive(t, l, 1001)
	expectSend(t, l, 1002, []byte("one")...)
	expectState(t, l, 6, 1)
	expectReceive(t, l, 1012, "one")
}

// P23.2, P23.3, P23.5: a play that is written out, with losses, outages and flips.
func TestErrorPlay(t *testing.T) {
	l := create(t, api.LinkConfig{
		Delay:   3,
		Outages: []api.Range{{From: 20, To: 30}, {From: 5, To: 7}},
		Lost:    []int{4, 1},
		Flips:   []api.Flip{{Index: 5, Bit: 23}, {Index: 0, Bit: 8}, {Index: 5, Bit: 0}, {Index: 1, Bit: 2}},
	})
	expectSend(t, l, 1, 0x00, 0x00)       // 0: the bit 8 is inverted
	expectSend(t, l, 2, 0xAA)             // 1: lost
	expectSend(t, l, 4, 0xBB)             // 2
	expectSend(t, l, 5, 0xCC)             // 3: lost in the outage
	expectSend(t, l, 7, 0xDD)             // 4: lost
	expectSend(t, l, 8, 0xFF, 0x00, 0xFF) // 5: the bits 23 and 0 are inverted
	expectState(t, l, 6, 3)
	expectReceive(t, l, 9, "\x00\x80", "\xBB")
	expectState(t, l, 6, 1)
	expectReceive(t, l, 11, "\x7F\x00\xFE")
	expectSend(t, l, 29, 0xEE) // 6: lost in the outage
	expectSend(t, l, 30, 0x11) // 7
	expectState(t, l, 8, 1)
	expectReceive(t, l, 32)
	expectReceive(t, l, 33, "\x11")
	expectState(t, l, 8, 0)
}

// P23.1: a Delay from 0 to MaxTime is permitted, and none beyond.
func TestDelay(t *testing.T) {
	for _, d := range []int{0, 1, 2, 1000, lastTime - 1, lastTime} {
		l := create(t, api.LinkConfig{Delay: d})
		expectState(t, l, 0, 0)
		expectReceive(t, l, 0)
		expectSend(t, l, 0, 7)
		if d > 0 {
			expectReceive(t, l, d-1)
			expectState(t, l, 1, 1)
		}
		expectReceive(t, l, d, "\x07")
		expectState(t, l, 1, 0)
	}
	for _, d := range []int{least, least + 1, -lastTime, -2, -1, lastTime + 1, lastTime + 2, 2 * lastTime, greatest - 1, greatest} {
		expectRefused(t, api.LinkConfig{Delay: d})
		expectRefused(t, api.LinkConfig{Delay: d, Lost: []int{0}, Flips: []api.Flip{{Index: 0, Bit: 0}}})
	}
}

// negatives are numbers that are neither an index nor a bit.
func negatives() []int { return []int{least, least + 1, -lastTime, -8, -2, -1} }

// P23.1: an element of Lost is not negative, wherever it stands.
func TestLostRefused(t *testing.T) {
	for _, n := range negatives() {
		for _, list := range [][]int{{n}, {n, 0}, {0, n}, {1, 2, n}, {greatest, n, greatest}, {n, n}} {
			expectRefused(t, api.LinkConfig{Lost: list})
			expectRefused(t, api.LinkConfig{Delay: lastTime, Lost: list})
		}
	}
}

// P23.1: neither Index nor Bit of an element of Flips is negative, wherever it stands.
func TestFlipsRefused(t *testing.T) {
	for _, n := range negatives() {
		for _, good := range []int{0, 1, greatest} {
			for _, f := range []api.Flip{{Index: n, Bit: good}, {Index: good, Bit: n}, {Index: n, Bit: n}} {
				other := api.Flip{Index: good, Bit: good}
				for _, list := range [][]api.Flip{{f}, {f, other}, {other, f}, {other, f, other}, {f, f}} {
					expectRefused(t, api.LinkConfig{Flips: list})
					expectRefused(t, api.LinkConfig{Lost: []int{good}, Flips: list})
				}
			}
		}
	}
}

// P23.1, P23.3: a new link has no transmissions, whatever its configuration is.
func TestNew(t *testing.T) {
	for _, c := range []api.LinkConfig{
		{},
		{Outages: []api.Range{}, Lost: []int{}, Flips: []api.Flip{}},
		{Delay: 3, Lost: []int{0, 0, 5, greatest, 1}},
		{Flips: []api.Flip{{Index: greatest, Bit: greatest}, {Index: 0, Bit: 0}}},
		{Outages: []api.Range{{From: least, To: greatest}, {From: greatest, To: least}, {From: -5, To: -1}}},
	} {
		l := create(t, c)
		expectState(t, l, 0, 0)
		expectReceive(t, l, 0)
		expectReceive(t, l, lastTime)
		expectState(t, l, 0, 0)
	}
}

// P23.2, P23.3: the transmissions whose indexes are elements of Lost are lost, and count for the indexes of later ones and for
// Sent, and not for Pending.
func TestLost(t *testing.T) {
	for _, lost := range [][]int{
		nil, {}, {0}, {1}, {5}, {6}, {7}, {greatest}, {0, 1}, {1, 0}, {5, 0, 3}, {3, 3}, {3, 0, 3, 0}, {0, 1, 2, 3, 4, 5, 6}, {2, greatest, 4, 4},
	} {
		l := create(t, api.LinkConfig{Delay: 2, Lost: lost})
		var want []string
		for i := range 7 {
			expectSend(t, l, i, byte(i), 9)
			if !slices.Contains(lost, i) {
				want = append(want, string([]byte{byte(i), 9}))
			}
			expectState(t, l, i+1, len(want))
		}
		expectReceive(t, l, 8, want...)
		expectState(t, l, 7, 0)
		expectReceive(t, l, lastTime)
	}
}

// P23.2: a transmission that an outage swallows counts for the indexes of later ones.
func TestIndexAfterOutage(t *testing.T) {
	l := create(t, api.LinkConfig{
		Outages: []api.Range{{From: 1, To: 3}},
		Lost:    []int{2, 4},
		Flips:   []api.Flip{{Index: 3, Bit: 7}, {Index: 1, Bit: 0}},
	})
	expectSend(t, l, 0, 0x10) // 0
	expectSend(t, l, 1, 0x20) // 1: lost in the outage, with its flip
	expectSend(t, l, 2, 0x30) // 2: lost twice
	expectSend(t, l, 3, 0x40) // 3: the bit 7 is inverted
	expectSend(t, l, 3, 0x50) // 4: lost
	expectSend(t, l, 3, 0x60) // 5
	expectState(t, l, 6, 3)
	expectReceive(t, l, 3, "\x10", "\x41", "\x60")
}

// P23.2: an index that is lost has no flips, and one that is never reached changes nothing.
func TestFlipOfLost(t *testing.T) {
	l := create(t, api.LinkConfig{Lost: []int{1}, Flips: []api.Flip{{Index: 1, Bit: 0}, {Index: 3, Bit: 0}, {Index: greatest, Bit: 0}}})
	for range 3 {
		expectSend(t, l, 0, 0)
	}
	expectState(t, l, 3, 2)
	expectReceive(t, l, 0, "\x00", "\x00")
}

// P23.2: one flip of each bit, counted from the most significant one of the first byte, and modulo the number of bits.
func TestFlipBits(t *testing.T) {
	for n := 1; n <= 5; n++ {
		for bit := range 8 * n {
			want := make([]byte, n)
			want[bit/8] = byte(1 << (7 - bit%8))
			for _, b := range []int{bit, bit + 8*n, bit + 80*n, bit + 8*n*1000003} {
				c := api.LinkConfig{Flips: []api.Flip{{Index: 0, Bit: b}}}
				expectDelivered(t, c, make([]byte, n), string(want))
				expectDelivered(t, c, want, string(make([]byte, n)))
			}
		}
	}
}

// P23.2: bits that are written out.
func TestFlipExamples(t *testing.T) {
	for _, c := range []struct {
		bits []int
		sent string
		want string
	}{
		{[]int{0}, "\x01", "\x81"},
		{[]int{7}, "\x01", "\x00"},
		{[]int{8}, "\x01", "\x81"},
		{[]int{15}, "\x01", "\x00"},
		{[]int{16}, "\x01", "\x81"},
		{[]int{8}, "\x01\x02", "\x01\x82"},
		{[]int{15}, "\x01\x02", "\x01\x03"},
		{[]int{16}, "\x01\x02", "\x81\x02"},
		{[]int{23}, "\x01\x02\x03", "\x01\x02\x02"},
		{[]int{24}, "\x01\x02\x03", "\x81\x02\x03"},
		{[]int{greatest}, "\x00", "\x01"},            // 2^63 - 1 modulo 8 is 7
		{[]int{greatest}, "\x00\x00", "\x00\x01"},    // modulo 16 it is 15
		{[]int{greatest}, "\x00\x00\x00", "\x01..."}, // modulo 24 it is 7
		{[]int{greatest - 7}, "\x00", "\x80"},
		{[]int{1 << 62}, "\x00", "\x80"},
		{[]int{0, 0}, "\x01", "\x01"},
		{[]int{0, 0, 0}, "\x01", "\x81"},
		{[]int{0, 8}, "\x01", "\x01"},
		{[]int{0, 8}, "\x01\x02", "\x81\x82"},
		{[]int{3, 11, 19}, "\x00", "\x10"},
		{[]int{1, 2}, "\x00", "\x60"},
		{[]int{2, 1}, "\x00", "\x60"},
		{[]int{7, 0, 7}, "\x00", "\x80"},
		{[]int{0, 1, 2, 3, 4, 5, 6, 7}, "\x5A\xFF", "\xA5\xFF"},
	} {
		var flips []api.Flip
		for _, b := range c.bits {
			flips = append(flips, api.Flip{Index: 0, Bit: b})
		}
		want := strings.ReplaceAll(c.want, "...", "\x00\x00")
		expectDelivered(t, api.LinkConfig{Flips: flips}, []byte(c.sent), want)
		expectDelivered(t, api.LinkConfig{Delay: 9, Flips: flips}, []byte(c.sent), want)
	}
}

// P23.2: the flips of several indexes, in any order, with those of one index apart from each other.
func TestFlipIndexes(t *testing.T) {
	l := create(t, api.LinkConfig{Delay: 1, Flips: []api.Flip{
		{Index: 3, Bit: 1}, {Index: 0, Bit: 4}, {Index: 3, Bit: 2}, {Index: 1, Bit: 9}, {Index: 0, Bit: 5}, {Index: 3, Bit: 1}, {Index: 7, Bit: 0},
	}})
	for range 5 {
		expectSend(t, l, 2, 0, 0)
	}
	expectReceive(t, l, 3, "\x0C\x00", "\x00\x40", "\x00\x00", "\x20\x00", "\x00\x00")
}

// P23.2: flips of the last of many transmissions, and of a byte string that is long.
func TestFlipFar(t *testing.T) {
	l := create(t, api.LinkConfig{Flips: []api.Flip{{Index: 4999, Bit: 3}, {Index: 5000, Bit: 8 * 70000}, {Index: 5000, Bit: 8*70000 - 1}}})
	for i := range 5000 {
		expectSend(t, l, i, 0)
	}
	long := sample(1, 70000)
	expectSend(t, l, 5000, long...)
	got := l.Receive(5000)
	if len(got) != 5001 || got[4999][0] != 0x10 {
		t.Fatalf("%d byte strings", len(got))
	}
	for i := range 4999 {
		if len(got[i]) != 1 || got[i][0] != 0 {
			t.Fatalf("%d is % x", i, got[i])
		}
	}
	long[0] ^= 0x80
	long[69999] ^= 1
	if !bytes.Equal(got[5000], long) {
		t.Fatal("the long one differs")
	}
}

// P23.2, P23.3: an empty byte string arrives as well, and has no bit that could be inverted.
func TestEmptyBytes(t *testing.T) {
	for _, flips := range [][]api.Flip{nil, {{Index: 0, Bit: 0}}, {{Index: 1, Bit: greatest}, {Index: 0, Bit: 8}, {Index: 1, Bit: 1}}} {
		l := create(t, api.LinkConfig{Delay: 4, Flips: flips})
		if err := l.Send(1, nil); err != api.OK {
			t.Fatalf("Send(1, nil) = %d", err)
		}
		if err := l.Send(2, []byte{}); err != api.OK {
			t.Fatalf("Send(2, []byte{}) = %d", err)
		}
		expectSend(t, l, 3, 9)
		expectState(t, l, 3, 3)
		expectReceive(t, l, 5, "")
		expectState(t, l, 3, 2)
		expectReceive(t, l, 7, "", "\x09")
		expectState(t, l, 3, 0)
	}
	l := create(t, api.LinkConfig{Lost: []int{0}, Outages: []api.Range{{From: 1, To: 2}}})
	expectSend(t, l, 0)
	expectSend(t, l, 1)
	expectSend(t, l, 2)
	expectState(t, l, 3, 1)
	expectReceive(t, l, 2, "")
}

// P23.2, P23.3, P23.5: byte strings of many lengths arrive unchanged.
func TestLengths(t *testing.T) {
	l := create(t, api.LinkConfig{Delay: 1})
	var want []string
	for n := range 300 {
		expectSend(t, l, n, sample(n, n)...)
		want = append(want, string(sample(n, n)))
	}
	for _, n := range []int{1024, 4096, 65536, 1 << 20} {
		expectSend(t, l, 300, sample(n, n)...)
		want = append(want, string(sample(n, n)))
	}
	expectReceive(t, l, 301, want...)
}

// P23.1, P23.2: the times at and next to the ends of outages.
func TestOutages(t *testing.T) {
	for _, c := range []struct {
		outages []api.Range
		out, in []int
	}{
		{nil, nil, []int{0, 1, lastTime}},
		{[]api.Range{}, nil, []int{0, 1, lastTime}},
		{[]api.Range{{From: 10, To: 20}}, []int{10, 11, 19}, []int{0, 9, 20, 21, lastTime}},
		{[]api.Range{{From: 10, To: 11}}, []int{10}, []int{0, 9, 11, lastTime}},
		{[]api.Range{{From: 10, To: 10}}, nil, []int{0, 9, 10, 11, lastTime}},
		{[]api.Range{{From: 10, To: 9}}, nil, []int{0, 8, 9, 10, 11, lastTime}},
		{[]api.Range{{From: 20, To: 10}}, nil, []int{0, 9, 10, 15, 19, 20, 21, lastTime}},
		{[]api.Range{{From: 0, To: 0}}, nil, []int{0, 1}},
		{[]api.Range{{From: 0, To: 1}}, []int{0}, []int{1, 2}},
		{[]api.Range{{From: -5, To: 3}}, []int{0, 1, 2}, []int{3, 4}},
		{[]api.Range{{From: -5, To: 0}}, nil, []int{0, 1}},
		{[]api.Range{{From: -5, To: -2}}, nil, []int{0, 1}},
		{[]api.Range{{From: -2, To: -5}}, nil, []int{0, 1, lastTime}},
		{[]api.Range{{From: least, To: greatest}}, []int{0, 1, lastTime - 1, lastTime}, nil},
		{[]api.Range{{From: greatest, To: least}}, nil, []int{0, 1, lastTime}},
		{[]api.Range{{From: least, To: least}, {From: greatest, To: greatest}}, nil, []int{0, 1, lastTime}},
		{[]api.Range{{From: least, To: 2}}, []int{0, 1}, []int{2, 3, lastTime}},
		{[]api.Range{{From: 5, To: greatest}}, []int{5, 6, lastTime}, []int{0, 4}},
		{[]api.Range{{From: 5, To: least}, {From: greatest, To: 5}}, nil, []int{0, 4, 5, 6, lastTime}},
		{[]api.Range{{From: lastTime - 1, To: lastTime}}, []int{lastTime - 1}, []int{0, lastTime - 2, lastTime}},
		{[]api.Range{{From: lastTime, To: lastTime + 1}}, []int{lastTime}, []int{0, lastTime - 1}},
		{[]api.Range{{From: lastTime + 1, To: lastTime + 9}}, nil, []int{0, lastTime - 1, lastTime}},
		{[]api.Range{{From: 10, To: 20}, {From: 30, To: 40}}, []int{10, 19, 30, 39}, []int{9, 20, 25, 29, 40}},
		{[]api.Range{{From: 30, To: 40}, {From: 10, To: 20}}, []int{10, 19, 30, 39}, []int{9, 20, 25, 29, 40}},
		{[]api.Range{{From: 10, To: 20}, {From: 15, To: 25}}, []int{10, 14, 15, 19, 20, 24}, []int{9, 25}},
		{[]api.Range{{From: 15, To: 25}, {From: 10, To: 20}}, []int{10, 14, 15, 19, 20, 24}, []int{9, 25}},
		{[]api.Range{{From: 10, To: 20}, {From: 20, To: 30}}, []int{10, 19, 20, 29}, []int{9, 30}},
		{[]api.Range{{From: 20, To: 30}, {From: 10, To: 20}}, []int{10, 19, 20, 29}, []int{9, 30}},
		{[]api.Range{{From: 10, To: 40}, {From: 20, To: 30}}, []int{10, 19, 20, 30, 39}, []int{9, 40}},
		{[]api.Range{{From: 10, To: 20}, {From: 18, To: 12}, {From: 10, To: 20}}, []int{10, 12, 15, 18, 19}, []int{9, 20}},
		{[]api.Range{{From: 40, To: 30}, {From: 3, To: 3}, {From: 5, To: 6}}, []int{5}, []int{3, 4, 6, 30, 35, 40}},
	} {
		for _, now := range c.out {
			l := create(t, api.LinkConfig{Outages: c.outages})
			expectSend(t, l, now, 1)
			expectState(t, l, 1, 0)
			expectReceive(t, l, lastTime)
		}
		for _, now := range c.in {
			l := create(t, api.LinkConfig{Outages: c.outages})
			expectSend(t, l, now, 1)
			expectState(t, l, 1, 1)
			expectReceive(t, l, now, "\x01")
		}
	}
}

// P23.2, P23.3: an outage concerns the time of Send. What was sent before it arrives within it, and what is sent within it does
// not arrive after it.
func TestOutageOnTheWay(t *testing.T) {
	l := create(t, api.LinkConfig{Delay: 10, Outages: []api.Range{{From: 5, To: 20}}})
	expectSend(t, l, 4, 1)
	expectSend(t, l, 12, 2)
	expectReceive(t, l, 13)
	expectReceive(t, l, 14, "\x01")
	expectSend(t, l, 19, 3)
	expectSend(t, l, 20, 4)
	expectReceive(t, l, 29)
	expectReceive(t, l, 30, "\x04")
	expectReceive(t, l, lastTime)
	expectState(t, l, 4, 0)
}

// P23.3: one tick before the delay has passed, at that time, and later.
func TestArrival(t *testing.T) {
	for _, d := range []int{1, 2, 7, 1000, lastTime / 2} {
		for _, sent := range []int{0, 1, 50, lastTime - d} {
			l := create(t, api.LinkConfig{Delay: d})
			expectSend(t, l, sent, 5)
			expectReceive(t, l, sent)
			early, late := clone(t, l), clone(t, l)
			expectReceive(t, early, sent+d-1)
			expectState(t, early, 1, 1)
			expectReceive(t, early, sent+d, "\x05")
			expectReceive(t, early, sent+d)
			expectReceive(t, l, sent+d, "\x05")
			expectState(t, l, 1, 0)
			expectReceive(t, late, lastTime, "\x05")
			expectReceive(t, late, lastTime)
			expectState(t, late, 1, 0)
		}
	}
}

// P23.3: a delay of 0.
func TestNoDelay(t *testing.T) {
	l := create(t, api.LinkConfig{})
	for _, now := range []int{0, 1, 1, 50, lastTime, lastTime} {
		expectSend(t, l, now, 1)
		expectReceive(t, l, now, "\x01")
		expectSend(t, l, now, 2)
		expectSend(t, l, now, 3)
		expectReceive(t, l, now, "\x02", "\x03")
		expectReceive(t, l, now)
	}
	expectState(t, l, 18, 0)
}

// P23.3: a Receive at which nothing, one and several byte strings arrive, and one again at the same time.
func TestReceiveCounts(t *testing.T) {
	l := create(t, api.LinkConfig{Delay: 5})
	expectReceive(t, l, 0)
	for _, now := range []int{0, 2, 2, 2, 3, 9} {
		expectSend(t, l, now, byte(now))
	}
	expectReceive(t, l, 9, "\x00", "\x02", "\x02", "\x02", "\x03")
	expectReceive(t, l, 9)
	expectReceive(t, l, 13)
	expectReceive(t, l, 14, "\x09")
	expectReceive(t, l, 14)
	expectReceive(t, l, lastTime)
}

// P23.3: a time of arrival greater than MaxTime is never reached, and MaxTime itself is.
func TestNeverArrives(t *testing.T) {
	for _, c := range []struct{ delay, sent int }{{1, lastTime}, {2, lastTime - 1}, {lastTime, 1}, {lastTime, lastTime}, {lastTime - 1, 2}} {
		l := create(t, api.LinkConfig{Delay: c.delay})
		expectSend(t, l, c.sent, 1)
		expectSend(t, l, 0, 2)
		for _, now := range []int{0, c.sent, lastTime - 1, lastTime, lastTime + 1, 2 * lastTime, greatest, lastTime} {
			expectReceive(t, l, now)
			expectState(t, l, 2, 2)
		}
	}
	for _, delay := range []int{1, 2, 1000, lastTime - 1, lastTime} {
		l := create(t, api.LinkConfig{Delay: delay})
		expectSend(t, l, lastTime-delay, 1)
		expectReceive(t, l, lastTime-1)
		expectSend(t, l, lastTime-delay+1, 2)
		expectReceive(t, l, lastTime, "\x01")
		expectReceive(t, l, lastTime)
		expectState(t, l, 2, 1)
	}
}

// use is a now with the time that is used for it.
type use struct{ now, used int }

// nows are the times at the edges for a link with the given time, and numbers that are no times.
func nows(time int) []use {
	list := []use{
		{least, time}, {least + 1, time}, {-lastTime, time}, {-2, time}, {-1, time}, {0, time}, {time - 1, time}, {time, time},
		{lastTime, lastTime}, {lastTime + 1, time}, {lastTime + 2, time}, {2 * lastTime, time}, {greatest - 1, time},
		{greatest, time},
	}
	if time < lastTime {
		list = append(list, use{time + 1, time + 1}, use{lastTime - 1, lastTime - 1})
	}
	return list
}

// expectTime checks by the outages of c, the configuration of l, that the time of l may be time: a clone to which no time is
// given loses what it sends if that is in an outage, and only then.
func expectTime(t *testing.T, l *link.Link, c api.LinkConfig, time int) {
	t.Helper()
	q := clone(t, l)
	before := q.Pending()
	expectSend(t, q, -1, 1)
	lost := q.Pending() == before
	if want := slices.ContainsFunc(c.Outages, func(r api.Range) bool { return r.From <= time && time < r.To }); lost != want {
		t.Fatalf("at the time %d, a transmission is lost: %t", time, lost)
	}
}

// P23.2, P23.3, the rule Time: Send and Receive with each now at the edges, first or after a Send or a Receive at some time. The
// time is seen by the outages: each begins or ends at the time that must be used.
func TestNow(t *testing.T) {
	for _, time := range []int{0, 1, 50, lastTime - 1, lastTime} {
		for _, c := range nows(time) {
			for _, outage := range []api.Range{{From: c.used, To: c.used + 1}, {From: least, To: c.used}, {From: c.used + 1, To: greatest}} {
				config := api.LinkConfig{Outages: []api.Range{outage}}
				inside := outage.From <= c.used && c.used < outage.To
				for kind := range 4 {
					l := create(t, config)
					if kind < 2 {
						l.Send(time, nil)
					}
					l.Receive(time)
					pending := 0
					if kind%2 == 0 {
						expectSend(t, l, c.now, 9)
						if !inside {
							pending = 1
						}
					} else {
						expectReceive(t, l, c.now)
					}
					expectState(t, l, (1-kind/2)+(1-kind%2), pending)
					expectTime(t, l, config, c.used)
				}
			}
		}
	}
}

// P23.2, the rule Time: an earlier time given to Send after a later one to Receive, and whether that is in an outage; and the
// other way round.
func TestPast(t *testing.T) {
	l := create(t, api.LinkConfig{Delay: 5, Outages: []api.Range{{From: 10, To: 20}}})
	expectReceive(t, l, 15)
	expectSend(t, l, 3, 1) // at 15
	expectState(t, l, 1, 0)
	expectReceive(t, l, 20)
	expectSend(t, l, 12, 2) // at 20
	expectState(t, l, 2, 1)
	expectReceive(t, l, 24)
	expectReceive(t, l, 17)
	expectReceive(t, l, 25, "\x02")

	expectSend(t, l, 30, 3)
	expectReceive(t, l, 29)
	expectSend(t, l, 26, 4) // at 30
	expectReceive(t, l, 34)
	expectReceive(t, l, 35, "\x03", "\x04")
	expectSend(t, l, -1, 5) // at 35
	expectReceive(t, l, 39)
	expectReceive(t, l, 40, "\x05")
	expectSend(t, l, 45, 6)
	expectSend(t, l, 50, 7)
	expectReceive(t, l, 0, "\x06") // at 50
	expectReceive(t, l, 54)
	expectSend(t, l, 55, 8)
	expectReceive(t, l, least, "\x07") // at 55
	expectSend(t, l, 60, 9)
	expectReceive(t, l, greatest, "\x08") // at 60
	expectState(t, l, 9, 1)
}

// P23.2, the rule Time: a Send that is lost advances the time as well.
func TestLostAdvances(t *testing.T) {
	l := create(t, api.LinkConfig{Delay: 5, Lost: []int{1}, Outages: []api.Range{{From: 30, To: 40}}})
	expectSend(t, l, 0, 1)
	expectSend(t, l, 5, 2)
	expectReceive(t, l, 0, "\x01")
	expectSend(t, l, 0, 3) // at 5
	expectReceive(t, l, 9)
	expectSend(t, l, 35, 4)
	expectReceive(t, l, 0, "\x03")
	expectSend(t, l, 20, 5) // at 35
	expectState(t, l, 5, 0)
}

// P23.1: the links of two calls of New have nothing to do with each other.
func TestTwoLinks(t *testing.T) {
	c := api.LinkConfig{Delay: 1, Lost: []int{1}}
	one, two := create(t, c), create(t, c)
	expectSend(t, one, 9, 1)
	expectSend(t, one, 9, 2)
	expectState(t, one, 2, 1)
	expectState(t, two, 0, 0)
	expectSend(t, two, 3, 3)
	expectReceive(t, two, 4, "\x03")
	expectReceive(t, one, 10, "\x01")
	expectSend(t, two, 4, 4)
	expectState(t, two, 2, 0)
	expectSend(t, one, 4, 5)
	expectState(t, one, 3, 1)
	expectState(t, create(t, c), 0, 0)
}

// The rule Memory: the slices of the configuration are neither modified nor retained.
func TestConfigMemory(t *testing.T) {
	c := api.LinkConfig{
		Delay:   1,
		Outages: []api.Range{{From: 30, To: 40}, {From: 10, To: 20}, {From: 9, To: 5}},
		Lost:    []int{4, 2, 2},
		Flips:   []api.Flip{{Index: 3, Bit: 1}, {Index: 0, Bit: 9}, {Index: 3, Bit: 1}},
	}
	before := copyOf(c)
	p := start(t, c)
	q := p.clone(t)
	for i := range c.Outages {
		c.Outages[i] = api.Range{From: 0, To: 5}
		c.Lost[i] = i
		c.Flips[i] = api.Flip{Index: i, Bit: i}
	}
	for _, r := range []*play{p, q} {
		for _, now := range []int{0, 4, 5, 9, 10, 20, 29, 30, 35, 40} {
			r.send(t, now, []byte{1})
			r.receive(t, now)
		}
	}

	c = copyOf(before)
	r := start(t, c)
	r.send(t, 0, []byte{1})
	r.clone(t).receive(t, 5)
	if c.Delay != before.Delay || !slices.Equal(c.Outages, before.Outages) || !slices.Equal(c.Lost, before.Lost) ||
		!slices.Equal(c.Flips, before.Flips) {
		t.Fatalf("%v, was %v", c, before)
	}

	// The elements between the length and the capacity of a slice are not the link's either.
	spare := api.LinkConfig{Outages: make([]api.Range, 0, 4), Lost: make([]int, 0, 4), Flips: make([]api.Flip, 0, 4)}
	l := create(t, spare)
	expectSend(t, l, 0, 1)
	expectReceive(t, l, 0, "\x01")
	if slices.ContainsFunc(spare.Outages[:4], func(r api.Range) bool { return r != api.Range{} }) ||
		slices.ContainsFunc(spare.Lost[:4], func(n int) bool { return n != 0 }) ||
		slices.ContainsFunc(spare.Flips[:4], func(f api.Flip) bool { return f != api.Flip{} }) {
		t.Fatalf("%v", spare)
	}
}

// The rule Memory: b is neither modified nor retained, with flips and without, lost or not.
func TestSendMemory(t *testing.T) {
	l := create(t, api.LinkConfig{Delay: 1, Lost: []int{2}, Flips: []api.Flip{{Index: 0, Bit: 0}, {Index: 2, Bit: 0}}})
	b := append(make([]byte, 0, 8), 1, 2, 3)
	for range 4 {
		expectSend(t, l, 0, b...)
	}
	if err := l.Send(0, b); err != api.OK {
		t.Fatalf("Send() = %d", err)
	}
	if string(b[:8]) != "\x01\x02\x03\x00\x00\x00\x00\x00" {
		t.Fatalf("b is % x", b[:8])
	}
	for i := range b {
		b[i] = 0xFF
	}
	expectReceive(t, l, 1, "\x81\x02\x03", "\x01\x02\x03", "\x01\x02\x03", "\x01\x02\x03")

	l = create(t, api.LinkConfig{Flips: []api.Flip{{Index: 0, Bit: 0}, {Index: 1, Bit: 8}}})
	b = []byte{1, 2}
	for range 2 {
		if err := l.Send(0, b); err != api.OK {
			t.Fatalf("Send() = %d", err)
		}
	}
	got := l.Receive(0)
	if string(b) != "\x01\x02" || len(got) != 2 || string(got[0]) != "\x81\x02" || string(got[1]) != "\x01\x82" {
		t.Fatalf("b is % x, got is % x", b, got)
	}
	got[0][1], got[1][0] = 9, 9
	if string(b) != "\x01\x02" {
		t.Fatalf("b is % x", b)
	}
}

// The rule Memory: what Receive returns shares no memory with other results or with the link, not even by appending.
func TestReceiveMemory(t *testing.T) {
	l := create(t, api.LinkConfig{Delay: 2})
	send := func(now int) {
		for _, s := range []string{"ab", "", "cd", "efg"} {
			expectSend(t, l, now, []byte(s)...)
		}
	}
	send(0)
	send(1)
	first := l.Receive(2)
	second := clone(t, l).Receive(3)
	for i := range first {
		for j := range first[i] {
			first[i][j] = '.'
		}
		_ = append(first[i], "...."...)
	}
	if fmt.Sprintf("%q", first) != `[".." "" ".." "..."]` {
		t.Fatalf("first is %q", first)
	}
	first = append(first[:1], make([][]byte, 3)...)
	_ = append(first, []byte("..."))
	send(2)
	if fmt.Sprintf("%q", second) != `["ab" "" "cd" "efg"]` {
		t.Fatalf("second is %q", second)
	}
	expectReceive(t, l, 3, "ab", "", "cd", "efg")
	expectReceive(t, l, 4, "ab", "", "cd", "efg")
}

// P23.4: a clone made before the first call, whose calls do not affect its original, nor the other way round.
func TestCloneOfNew(t *testing.T) {
	c := api.LinkConfig{Delay: 2, Lost: []int{1}, Outages: []api.Range{{From: 8, To: 9}}, Flips: []api.Flip{{Index: 2, Bit: 0}}}
	p := start(t, c)
	q := p.clone(t)
	for _, r := range []*play{p, q} {
		for _, now := range []int{0, 1, 3, 8, 9} {
			r.send(t, now, []byte{byte(now), 7})
		}
		r.receive(t, 10)
		p.expectState(t)
		q.expectState(t)
		r.receive(t, 11)
	}
	p.send(t, 12, []byte{1})
	q.expectState(t)
	q.receive(t, 0)
	q.send(t, 0, []byte{2})
	p.receive(t, 14)
	q.receive(t, 13)
}

// P23.4: clones made in the middle of a play, with which it goes on in other ways.
func TestCloneInPlay(t *testing.T) {
	l := create(t, api.LinkConfig{Delay: 5, Lost: []int{4}})
	expectSend(t, l, 0, 'a')
	expectSend(t, l, 1, 'b')
	expectSend(t, l, 2, 'c')
	expectReceive(t, l, 5, "a")
	c := clone(t, l)
	expectSend(t, l, 6, 'd')
	expectSend(t, l, 6, 'x')
	expectState(t, l, 5, 3)
	expectState(t, c, 3, 2)
	expectReceive(t, c, 6, "b")
	expectSend(t, c, 7, 'e')
	expectSend(t, c, 7, 'y')
	expectSend(t, c, 8, 'f')
	expectState(t, c, 6, 3)
	expectState(t, l, 5, 3)
	d := clone(t, c)
	expectReceive(t, l, 11, "b", "c", "d")
	expectReceive(t, c, 11, "c")
	expectReceive(t, c, 12, "e")
	expectReceive(t, c, 13, "f")
	expectReceive(t, d, 13, "c", "e", "f")
	expectReceive(t, l, 13)
}

// P23.4: a clone has the time of its original, and does not move it.
func TestCloneTime(t *testing.T) {
	l := create(t, api.LinkConfig{Outages: []api.Range{{From: 10, To: 20}}})
	expectReceive(t, l, 12)
	c := clone(t, l)
	expectSend(t, c, 0, 1) // at 12
	expectState(t, c, 1, 0)
	expectReceive(t, c, 30)
	expectSend(t, l, 0, 1) // at 12
	expectState(t, l, 1, 0)
	expectSend(t, c, 0, 1) // at 30
	expectState(t, c, 2, 1)
}

// P23.4, the rule Memory: what a clone returns shares no memory with what its original returns.
func TestCloneMemory(t *testing.T) {
	l := create(t, api.LinkConfig{Delay: 1})
	expectSend(t, l, 0, []byte("abc")...)
	expectSend(t, l, 0, []byte("def")...)
	c := clone(t, l)
	d := clone(t, c)
	for _, x := range []*link.Link{c, l, d} {
		got := x.Receive(1)
		if fmt.Sprintf("%q", got) != `["abc" "def"]` {
			t.Fatalf("got is %q", got)
		}
		for i := range got {
			for j := range got[i] {
				got[i][j] = '.'
			}
		}
		got[0], got[1] = nil, nil
	}

	// What is sent by one does not come into the other, though both had the same number of byte strings.
	expectSend(t, l, 5, 'x')
	c = clone(t, l)
	expectSend(t, l, 5, 'y')
	expectSend(t, c, 5, 'z')
	expectReceive(t, l, 6, "x", "y")
	expectReceive(t, c, 6, "x", "z")
}

// P23.4: clones of a link some of whose byte strings were returned.
func TestCloneAfterReceive(t *testing.T) {
	for returned := range 6 {
		l := create(t, api.LinkConfig{Delay: 10})
		for i := range 5 {
			expectSend(t, l, i, byte('a'+i))
		}
		l.Receive(returned + 9)
		c := clone(t, l)
		for _, x := range []*link.Link{l, c} {
			expectState(t, x, 5, 5-returned)
			expectSend(t, x, 20, 'z')
			if got := string(bytes.Join(x.Receive(30), nil)); got != "abcde"[returned:]+"z" {
				t.Fatalf("after %d: %s", returned, got)
			}
		}
	}
}

// The rule Nil objects: a nil link, and one that New did not return.
func TestNil(t *testing.T) {
	zero := link.Link{}
	for _, l := range []*link.Link{nil, &zero, new(link.Link)} {
		for _, now := range []int{least, -1, 0, 1, lastTime, greatest} {
			for _, b := range [][]byte{nil, {}, {1}} {
				if err := l.Send(now, b); err != api.ErrNil {
					t.Fatalf("Send() = %d", err)
				}
			}
			if got := l.Receive(now); len(got) != 0 {
				t.Fatalf("Receive() = %v", got)
			}
			expectState(t, l, 0, 0)
			if c := l.Clone(); c != nil {
				t.Fatalf("Clone() = %v", c)
			}
		}
	}
}

// P23.2, P23.3, P23.5: every sequence of four calls of several small links. Each call is made on a copy, so that all that follow
// it begin in the same state.
func TestEverySequence(t *testing.T) {
	for _, c := range []api.LinkConfig{
		{},
		{Delay: 1},
		{Delay: 2, Lost: []int{1}},
		{Delay: 1, Outages: []api.Range{{From: 1, To: 2}}},
		{Delay: lastTime, Lost: []int{2, 0}},
		{Delay: lastTime - 1, Flips: []api.Flip{{Index: 0, Bit: 8}}, Outages: []api.Range{{From: 0, To: 1}}},
		{Delay: 1, Flips: []api.Flip{{Index: 1, Bit: 3}, {Index: 0, Bit: 12}, {Index: 1, Bit: 11}}},
	} {
		expectSequences(t, start(t, c), 4)
	}
}

// expectSequences makes every sequence of the given number of calls on copies of p.
func expectSequences(t *testing.T, p *play, calls int) {
	t.Helper()
	p.expectState(t)
	if calls == 0 {
		return
	}
	for _, now := range []int{0, 1, 2, lastTime, lastTime + 1} {
		q := p.clone(t)
		q.receive(t, now)
		expectSequences(t, q, calls-1)
		for n := range 2 {
			q := p.clone(t)
			q.send(t, now, sample(calls, n))
			expectSequences(t, q, calls-1)
		}
	}
	p.expectState(t)
}

// someConfig returns a configuration without a rule, of small numbers mostly.
func someConfig(next func() uint64) api.LinkConfig {
	c := api.LinkConfig{Delay: int(next() % 30)}
	for range next() % 4 {
		from := int(next()%400) - 10
		c.Outages = append(c.Outages, api.Range{From: from, To: from + int(next()%60) - 10})
	}
	for range next() % 8 {
		c.Lost = append(c.Lost, int(next()%50))
	}
	for range next() % 30 {
		c.Flips = append(c.Flips, api.Flip{Index: int(next() % 50), Bit: int(next() % (1 << (next() % 40)))})
	}
	if next()%8 == 0 {
		c.Delay = []int{lastTime, lastTime - 1, lastTime - 200, 0}[next()%4]
	}
	return c
}

// someNow returns a time a little after that of p mostly, else one in the past, or no time.
func (p *play) someNow(next func() uint64) int {
	switch next() % 16 {
	case 0:
		return p.m.time - int(next()%20)
	case 1:
		return []int{least, -1, lastTime + 1, greatest}[next()%4]
	default:
		return p.m.time + int(next()%10)
	}
}

// P23.2, P23.3, P23.4: plays without a rule, with copies that go on.
func TestPlays(t *testing.T) {
	next := pseudo(1)
	for i := range 1500 {
		p := start(t, someConfig(next))
		var early *play
		for j := range 100 {
			if next()%2 == 0 {
				p.send(t, p.someNow(next), sample(j, int(next()%6)))
			} else {
				p.receive(t, p.someNow(next))
			}
			if next()%40 == 0 {
				early, p = p, p.clone(t)
			}
			if early != nil && next()%3 == 0 {
				early.send(t, early.someNow(next), sample(j, int(next()%6)))
				early.receive(t, early.someNow(next))
				p.expectState(t)
			}
		}
		if i%2 == 0 {
			p.receive(t, lastTime)
		}
	}
}

// P23.5: every transmission that is not lost is returned exactly once, in the order of transmission, not before its delay has
// passed, and unchanged without a flip of its index.
func TestExactlyOnce(t *testing.T) {
	next := pseudo(2)
	for range 300 {
		c := someConfig(next)
		c.Delay = int(next() % 30)
		l := create(t, c)
		var expected []sending
		received, now := 0, 0
		receive := func() {
			t.Helper()
			for _, b := range l.Receive(now) {
				if received == len(expected) {
					t.Fatalf("%q is one too many", b)
				}
				expected[received].expect(t, c, now, string(b))
				received++
			}
		}
		sent := 0
		for range 80 {
			now += int(next() % 8)
			if next()%3 == 0 {
				receive()
				continue
			}
			x := sending{sent, now, fmt.Sprintf("%d at %d", sent, now)}
			expectSend(t, l, now, []byte(x.text)...)
			if !newModel(c).loses(sent, now) {
				expected = append(expected, x)
			}
			sent++
		}
		now += c.Delay
		receive()
		if received != len(expected) {
			t.Fatalf("%d of %d", received, len(expected))
		}
		expectState(t, l, sent, 0)
	}
}

// sending is a transmission with a text that no other one has.
type sending struct {
	index, time int
	text        string
}

// expect checks that x is what was received at the time now.
func (x sending) expect(t *testing.T, c api.LinkConfig, now int, got string) {
	t.Helper()
	if now < x.time+c.Delay {
		t.Fatalf("%q arrives at %d with the delay %d", x.text, now, c.Delay)
	}
	flipped := slices.ContainsFunc(c.Flips, func(f api.Flip) bool { return f.Index == x.index })
	if got != x.text && !flipped || len(got) != len(x.text) {
		t.Fatalf("%q instead of %q", got, x.text)
	}
}

// loses reports whether the transmission with an index at the time now is lost.
func (m *model) loses(index, now int) bool {
	m.advance(now)
	return m.interrupted() || slices.Contains(m.config.Lost, index)
}

// P23.5: everything that was sent comes out unchanged if there are neither losses nor flips, whatever Receive is called when.
func TestUnchanged(t *testing.T) {
	next := pseudo(3)
	for range 100 {
		l := create(t, api.LinkConfig{Delay: int(next() % 100)})
		var sent, got []byte
		for now := range 200 {
			if next()%2 == 0 {
				b := sample(now, int(next()%50))
				sent = append(sent, b...)
				expectSend(t, l, now, b...)
			}
			if next()%4 == 0 {
				got = append(got, bytes.Join(l.Receive(now), nil)...)
			}
			if !bytes.HasPrefix(sent, got) {
				t.Fatal("not in the order of transmission")
			}
		}
		got = append(got, bytes.Join(l.Receive(300), nil)...)
		if !bytes.Equal(sent, got) {
			t.Fatal("not what was sent")
		}
	}
}

// The rule Determinism: the same calls have the same results.
func TestSameCalls(t *testing.T) {
	run := func() string {
		next := pseudo(4)
		var s strings.Builder
		for range 50 {
			p := start(t, someConfig(next))
			for j := range 50 {
				err := p.l.Send(p.someNow(next), sample(j, int(next()%5)))
				fmt.Fprint(&s, err, p.l.Receive(p.someNow(next)), p.l.Sent(), p.l.Pending())
			}
		}
		return s.String()
	}
	first := run()
	for range 3 {
		if run() != first {
			t.Fatal("the results differ")
		}
	}
}
