package fop_test

import (
	"bytes"
	"math"
	"slices"
	"strconv"
	"strings"
	"testing"

	"spacecraft/api"
	"spacecraft/farm"
	"spacecraft/fop"
	"spacecraft/tcframe"
)

const (
	least    = math.MinInt
	greatest = math.MaxInt
	maxTime  = 1 << 40
	// craft and channel are those of most sending ends.
	craft   = 5
	channel = 1
)

// states are all states of a sending end.
var states = []int{fop.Active, fop.Held, fop.Locked, fop.Stopped}

// pseudo returns numbers that follow no simple rule but are the same in every run.
func pseudo(seed uint64) func() uint64 {
	x := seed*2 + 0x9E3779B97F4A7C15
	return func() uint64 {
		x ^= x << 13
		x ^= x >> 7
		x ^= x << 17
		return x >> 20
	}
}

// unit is a data unit of the model, with what the chapter says of each of them.
type unit struct {
	data []byte
	due  bool
	sent bool
}

// model is a sending end as the chapter describes it.
type model struct {
	craft, channel, window, timeout, retries int
	state, acked, timer, count, now          int
	units                                    []unit
	controls                                 []api.TcFrame
}

// nearest returns the number from low to high that is nearest to n.
func nearest(n, low, high int) int {
	if n < low {
		return low
	}
	if n > high {
		return high
	}
	return n
}

// newModel is New.
func newModel(craft, channel, window, timeout, retries int) *model {
	return &model{
		craft: nearest(craft, 0, 1023), channel: nearest(channel, 0, 7), window: nearest(window, 1, 127),
		timeout: nearest(timeout, 1, maxTime), retries: nearest(retries, 0, 255), state: 1,
	}
}

// clone is Clone.
func (m *model) clone() *model {
	n := *m
	n.units, n.controls = slices.Clone(m.units), slices.Clone(m.controls)
	return &n
}

// pass is the rule Time.
func (m *model) pass(now int) {
	if now >= 0 && now <= maxTime {
		m.now = max(m.now, now)
	}
}

// allDue makes all units due.
func (m *model) allDue() {
	for i := range m.units {
		m.units[i].due = true
	}
}

// frontier counts the units that were transmitted since the last Unlock.
func (m *model) frontier() int {
	count := 0
	for _, u := range m.units {
		if u.sent {
			count++
		}
	}
	return count
}

// send is P17.2.
func (m *model) send(data []byte) api.Errno {
	if len(data) == 0 || len(data) >= 1018 {
		return api.ErrArg
	}
	if len(m.units) == 256 {
		return api.ErrFull
	}
	m.units = append(m.units, unit{data: bytes.Clone(data), due: true})
	return api.OK
}

// next is P17.3.
func (m *model) next(now int) (api.TcFrame, bool) {
	m.pass(now)
	if len(m.controls) > 0 {
		x := m.controls[0]
		m.controls = m.controls[1:]
		return x, true
	}
	if m.state != 1 || len(m.units) == 0 {
		return api.TcFrame{}, false
	}
	if x, ok := m.third(); ok {
		return x, true
	}
	if m.now < m.timer+m.timeout {
		return api.TcFrame{}, false
	}
	if m.count == m.retries {
		m.state = 4
		return api.TcFrame{}, false
	}
	m.count++
	m.allDue()
	return m.third()
}

// third is rule 3 of P17.3.
func (m *model) third() (api.TcFrame, bool) {
	for i, u := range m.units {
		if i < m.window && u.due {
			m.units[i].due, m.units[i].sent = false, true
			m.timer = m.now
			return api.TcFrame{Craft: m.craft, Channel: m.channel, Seq: (m.acked + i) % 256, Data: u.data}, true
		}
	}
	return api.TcFrame{}, false
}

// report is P17.4.
func (m *model) report(c api.Clcw, now int) api.Errno {
	m.pass(now)
	if c.Channel != m.channel || c.Bypass < 0 || c.Bypass > 3 || c.Next < 0 || c.Next > 255 {
		return api.ErrArg
	}
	if c.Lockout {
		m.state = 3
		return api.ErrLock
	}
	d := (c.Next + 256 - m.acked%256) % 256
	if d > m.frontier() {
		m.state = 4
		return api.ErrState
	}
	m.units = m.units[d:]
	m.acked += d
	if d > 0 {
		m.count, m.timer = 0, m.now
	}
	if c.Retransmit {
		m.allDue()
	}
	switch {
	case m.state == 1 && c.Wait:
		m.state = 2
	case m.state == 2 && !c.Wait:
		m.state = 1
	}
	return api.OK
}

// unlock is P17.5.
func (m *model) unlock(now int) api.Errno {
	m.pass(now)
	m.controls = []api.TcFrame{
		{Bypass: true, Control: true, Craft: m.craft, Channel: m.channel, Data: []byte{0}},
		{Bypass: true, Control: true, Craft: m.craft, Channel: m.channel, Data: []byte{0x82, 0, byte(m.acked % 256)}},
	}
	m.allDue()
	for i := range m.units {
		m.units[i].sent = false
	}
	m.count, m.timer, m.state = 0, m.now, 1
	return api.OK
}

// duo is a sending end with its model; every call is made of both of them, and has to have the same results.
type duo struct {
	t *testing.T
	f *fop.Fop
	m *model
	// total is how many units were sent; the data of the unit with the index k are pattern(k).
	total int
}

// pattern returns the data of a unit.
func pattern(k int) []byte { return []byte{byte(k >> 16), byte(k >> 8), byte(k)} }

// made returns a sending end of New.
func made(t *testing.T, craft, channel, window, timeout, retries int) *duo {
	t.Helper()
	f := fop.New(craft, channel, window, timeout, retries)
	if f == nil {
		t.Fatalf("New(%d, %d, %d, %d, %d) = nil", craft, channel, window, timeout, retries)
	}
	d := &duo{t: t, f: f, m: newModel(craft, channel, window, timeout, retries)}
	d.is(fop.Active, 0, 0)
	return d
}

// clone returns a clone of both.
func (d *duo) clone() *duo {
	d.t.Helper()
	f := d.f.Clone()
	if f == nil || f == d.f {
		d.t.Fatal("Clone returned nil or its own sending end")
	}
	e := &duo{t: d.t, f: f, m: d.m.clone(), total: d.total}
	e.agree("Clone")
	return e
}

// is checks the state, and the numbers of units that have not and that have been acknowledged.
func (d *duo) is(state, queued, acked int) {
	d.t.Helper()
	for range 2 {
		if s, q, a := d.f.State(), d.f.Queued(), d.f.Acked(); s != state || q != queued || a != acked {
			d.t.Fatalf("State, Queued, Acked = %d, %d, %d, want %d, %d, %d", s, q, a, state, queued, acked)
		}
	}
}

// agree checks the same against the model.
func (d *duo) agree(call string) {
	d.t.Helper()
	s, q, a := d.f.State(), d.f.Queued(), d.f.Acked()
	if s != d.m.state || q != len(d.m.units) || a != d.m.acked {
		d.t.Fatalf("after %s: State, Queued, Acked = %d, %d, %d, want %d, %d, %d", call, s, q, a, d.m.state, len(d.m.units), d.m.acked)
	}
}

// send calls Send.
func (d *duo) send(data []byte, want api.Errno) {
	d.t.Helper()
	before := bytes.Clone(data)
	expected := d.m.send(data)
	if got := d.f.Send(data); got != want || got != expected {
		d.t.Fatalf("Send of %d bytes: %d, want %d, and by the model %d", len(data), got, want, expected)
	}
	if !bytes.Equal(data, before) {
		d.t.Fatal("Send changed its argument")
	}
	d.agree("Send")
}

// add sends more units.
func (d *duo) add(count int) {
	d.t.Helper()
	for range count {
		d.send(pattern(d.total), api.OK)
		d.total++
	}
}

// sameFrame reports whether two frames are the same, with their data.
func sameFrame(x, y api.TcFrame) bool {
	return x.Bypass == y.Bypass && x.Control == y.Control && x.Craft == y.Craft && x.Channel == y.Channel && x.Seq == y.Seq &&
		bytes.Equal(x.Data, y.Data)
}

// next calls Next.
func (d *duo) next(now int) (api.TcFrame, bool) {
	d.t.Helper()
	want, expected := d.m.next(now)
	got, ok := d.f.Next(now)
	if ok != expected || !sameFrame(got, want) {
		d.t.Fatalf("Next(%d) = %+v, %t, want %+v, %t", now, got, ok, want, expected)
	}
	if ok && !tcframe.Valid(got) {
		d.t.Fatalf("Next(%d) = %+v, which is not valid", now, got)
	}
	d.agree("Next")
	return got, ok
}

// data calls Next, which has to return the units with these indices.
func (d *duo) data(now int, indices ...int) {
	d.t.Helper()
	for _, k := range indices {
		want := api.TcFrame{Craft: d.m.craft, Channel: d.m.channel, Seq: k % 256, Data: pattern(k)}
		if got, ok := d.next(now); !ok || !sameFrame(got, want) {
			d.t.Fatalf("Next(%d) = %+v, %t, want the unit %d", now, got, ok, k)
		}
	}
}

// run is data for count units, the first of which has the index first.
func (d *duo) run(now, first, count int) {
	d.t.Helper()
	for k := range count {
		d.data(now, first+k)
	}
}

// none calls Next, which must not return a frame.
func (d *duo) none(now int) {
	d.t.Helper()
	for range 2 {
		if x, ok := d.next(now); ok {
			d.t.Fatalf("Next(%d) = %+v, true, want none", now, x)
		}
	}
}

// controls calls Next, which has to return the control frames that set the next number to number.
func (d *duo) controls(now, number int) {
	d.t.Helper()
	d.control(now, 0)
	d.control(now, 0x82, 0, byte(number))
}

// control calls Next, which has to return the control frame with these data.
func (d *duo) control(now int, data ...byte) {
	d.t.Helper()
	want := api.TcFrame{Bypass: true, Control: true, Craft: d.m.craft, Channel: d.m.channel, Data: data}
	if got, ok := d.next(now); !ok || !sameFrame(got, want) {
		d.t.Fatalf("Next(%d) = %+v, %t, want %+v", now, got, ok, want)
	}
}

// word returns a control word; the letters of flags are L for Lockout, W for Wait and R for Retransmit.
func word(next int, flags string) api.Clcw {
	return api.Clcw{
		Channel: channel, Next: next,
		Lockout: strings.Contains(flags, "L"), Wait: strings.Contains(flags, "W"), Retransmit: strings.Contains(flags, "R"),
	}
}

// report calls Report.
func (d *duo) report(now int, c api.Clcw, want api.Errno) {
	d.t.Helper()
	expected := d.m.report(c, now)
	if got := d.f.Report(c, now); got != want || got != expected {
		d.t.Fatalf("Report(%+v, %d) = %d, want %d, and by the model %d", c, now, got, want, expected)
	}
	d.agree("Report")
}

// unlock calls Unlock.
func (d *duo) unlock(now int) {
	d.t.Helper()
	d.m.unlock(now)
	if got := d.f.Unlock(now); got != api.OK {
		d.t.Fatalf("Unlock(%d) = %d", now, got)
	}
	d.agree("Unlock")
}

// numbered returns a sending end in its initial state, but for its number and its time: the first unit that has not been
// acknowledged has the index first, and the time is now.
func numbered(t *testing.T, window, timeout, retries, first, now int) *duo {
	t.Helper()
	d := made(t, craft, channel, window, timeout, retries)
	for k := range first {
		d.add(1)
		d.data(0, k)
		d.report(0, word((k+1)%256, ""), api.OK)
	}
	d.unlock(now)
	d.controls(now, first%256)
	return d
}

// lead brings a sending end that is Active to a state. In Stopped, its frontier must be less than 255.
func (d *duo) lead(state, now int) {
	d.t.Helper()
	first := d.m.acked % 256
	switch state {
	case fop.Held:
		d.report(now, word(first, "W"), api.OK)
	case fop.Locked:
		d.report(now, word(first, "L"), api.ErrLock)
	case fop.Stopped:
		d.report(now, word((first+d.m.frontier()+1)%256, ""), api.ErrState)
	}
	d.is(state, len(d.m.units), d.m.acked)
}

// in returns a sending end in a state, at the time 100, with the window 4, the timeout 10 and 3 retries: of waiting units, of
// which the first one has the index first, sent ones were transmitted.
func in(t *testing.T, state, first, waiting, sent int) *duo {
	t.Helper()
	d := numbered(t, 4, 10, 3, first, 100)
	d.add(waiting)
	d.run(100, first, sent)
	d.lead(state, 100)
	return d
}

// probe looks at clones of a sending end for everything that later calls can show of it.
func (d *duo) probe() {
	d.t.Helper()
	first := d.m.acked % 256
	for n := range 256 {
		if n > 130 && n%25 != 5 {
			continue
		}
		for _, flags := range []string{"", "R", "W", "L"} {
			e := d.clone()
			e.report(-1, word((first+n)%256, flags), e.m.clone().report(word((first+n)%256, flags), -1))
			for range 3 {
				e.next(-1)
			}
			e.next(e.m.timer + e.m.timeout)
		}
	}
	e := d.clone()
	for _, now := range []int{-1, d.m.now, d.m.timer + d.m.timeout - 1, d.m.timer + d.m.timeout, d.m.now + d.m.timeout} {
		for range d.m.window + 4 {
			e.next(now)
		}
	}
	for range d.m.retries + 2 {
		e.next(e.m.timer + e.m.timeout)
		for range d.m.window {
			e.next(-1)
		}
	}
	d.timeIs(d.m.now)
}

// timeIs checks the greatest time that was given: Unlock sets the timer to it.
func (d *duo) timeIs(want int) {
	d.t.Helper()
	e := d.clone()
	if len(e.m.units) == 0 {
		e.add(1)
	}
	e.unlock(least)
	for range min(len(e.m.units), e.m.window) + 2 {
		if _, ok := e.next(-1); !ok {
			d.t.Fatal("too few frames after Unlock")
		}
	}
	e.none(greatest)
	e.none(min(want+e.m.timeout-1, maxTime))
	if want+e.m.timeout > maxTime || e.m.retries == 0 {
		return
	}
	if _, ok := e.next(want + e.m.timeout); !ok {
		d.t.Fatalf("no repetition at %d, as if the time were not %d", want+e.m.timeout, want)
	}
}

// P17.3, P17.4: the chapter's first example.
func TestExampleRepetition(t *testing.T) {
	d := made(t, 5, 1, 2, 10, 3)
	d.add(3)
	d.data(0, 0, 1)
	d.none(0)
	d.report(3, word(1, ""), api.OK)
	d.is(fop.Active, 2, 1)
	d.data(3, 2)
	d.none(3)
	d.none(12)
	d.data(13, 1, 2)
	d.none(13)
}

// P17.4, P17.5: the chapter's second example.
func TestExampleLockout(t *testing.T) {
	d := made(t, 5, 1, 2, 10, 3)
	d.add(3)
	d.data(0, 0, 1)
	d.report(3, word(1, ""), api.OK)
	d.report(4, word(1, "L"), api.ErrLock)
	d.is(fop.Locked, 2, 1)
	d.none(4)
	d.none(100)
	d.unlock(101)
	d.is(fop.Active, 2, 1)
	d.controls(101, 1)
	d.data(101, 1, 2)
	d.none(101)
}

// P17.1: the states have the values that the chapter gives.
func TestStates(t *testing.T) {
	if got := []int{fop.Active, fop.Held, fop.Locked, fop.Stopped}; !slices.Equal(got, []int{1, 2, 3, 4}) {
		t.Fatalf("the states are %v", got)
	}
}

// bound is an argument of New and what it becomes.
type bound struct{ given, want int }

// bounds returns arguments in and out of a range.
func bounds(low, high int) []bound {
	return []bound{
		{least, low}, {least + 1, low}, {-1 << 40, low}, {-1 << 32, low}, {-1<<32 + low, low}, {-high, low}, {low - 2, low},
		{low - 1, low}, {low, low}, {low + 1, low + 1}, {high - 1, high - 1}, {high, high}, {high + 1, high}, {high + 2, high},
		{2*high + 2, high}, {1<<41 + low + 1, high}, {1<<62 + low, high}, {greatest - 1, high}, {greatest, high},
	}
}

// P17.1: craft and channel, seen by the frames and by the control words that are accepted.
func TestNewPlace(t *testing.T) {
	check := func(givenCraft, givenChannel, craft, channel int) {
		d := made(t, givenCraft, givenChannel, 2, 10, 3)
		d.add(2)
		for k := range 2 {
			x, ok := d.f.Next(0)
			if want := (api.TcFrame{Craft: craft, Channel: channel, Seq: k, Data: pattern(k)}); !ok || !sameFrame(x, want) {
				t.Fatalf("New(%d, %d, ..): Next = %+v, %t, want %+v", givenCraft, givenChannel, x, ok, want)
			}
		}
		for c := range 8 {
			want := api.ErrArg
			if c == channel {
				want = api.OK
			}
			if got := d.f.Report(api.Clcw{Channel: c, Next: 1}, 0); got != want {
				t.Fatalf("New(%d, %d, ..): a Report of the channel %d: %d, want %d", givenCraft, givenChannel, c, got, want)
			}
		}
		d.f.Unlock(0)
		for _, data := range [][]byte{{0}, {0x82, 0, 1}} {
			x, ok := d.f.Next(0)
			want := api.TcFrame{Bypass: true, Control: true, Craft: craft, Channel: channel, Data: data}
			if !ok || !sameFrame(x, want) {
				t.Fatalf("New(%d, %d, ..): Next = %+v, %t, want %+v", givenCraft, givenChannel, x, ok, want)
			}
		}
	}
	for _, c := range bounds(0, 1023) {
		for _, n := range bounds(0, 7) {
			check(c.given, n.given, c.want, n.want)
		}
	}
	for c := range 1024 {
		check(c, c%8, c, c%8)
	}
	for n := range 8 {
		check(1023-n, n, 1023-n, n)
	}
}

// P17.1: the window, seen by how many units are sent at once.
func TestNewWindow(t *testing.T) {
	cases := bounds(1, 127)
	for n := 1; n <= 127; n++ {
		cases = append(cases, bound{n, n})
	}
	cases = append(cases, bound{255, 127}, bound{256, 127}, bound{257, 127}, bound{1<<32 + 2, 127})
	for _, c := range cases {
		d := made(t, craft, channel, c.given, 10, 3)
		d.add(256)
		d.run(0, 0, c.want)
		d.none(0)
		d.none(9)
		d.run(10, 0, c.want)
		d.none(10)
		d.report(11, word(1, ""), api.OK)
		d.data(11, c.want)
		d.none(11)
	}
}

// P17.1: the timeout, seen by when units are repeated.
func TestNewTimeout(t *testing.T) {
	for _, c := range append(bounds(1, maxTime), bound{10, 10}, bound{1 << 32, 1 << 32}, bound{1 << 20, 1 << 20}) {
		d := made(t, craft, channel, 2, c.given, 3)
		d.add(3)
		d.data(0, 0, 1)
		d.none(0)
		d.none(c.want / 2)
		d.none(c.want - 1)
		d.data(c.want, 0, 1)
		d.none(c.want)
		if 2*c.want <= maxTime {
			d.none(2*c.want - 1)
			d.data(2*c.want, 0, 1)
		}
	}
}

// P17.1, P17.3: the retries, seen by how often units are repeated.
func TestNewRetries(t *testing.T) {
	for _, c := range append(bounds(0, 255), bound{127, 127}, bound{128, 128}, bound{1<<32 + 3, 255}) {
		for _, window := range []int{1, 2, 127} {
			d := made(t, craft, channel, window, 10, c.given)
			d.add(2)
			shown := min(window, 2)
			d.run(0, 0, shown)
			for i := range c.want {
				d.none(10*i + 9)
				d.run(10*i+10, 0, shown)
				d.none(10*i + 10)
			}
			d.is(fop.Active, 2, 0)
			d.none(10*c.want + 9)
			d.is(fop.Active, 2, 0)
			d.none(10*c.want + 10)
			d.is(fop.Stopped, 2, 0)
			d.none(10*c.want + 1000)
		}
	}
}

// P17.1: the least and the greatest arguments at once.
func TestNewExtremes(t *testing.T) {
	d := made(t, least, least, least, least, least)
	d.add(2)
	d.data(0, 0)
	d.none(0)
	d.is(fop.Active, 2, 0)
	d.none(1)
	d.is(fop.Stopped, 2, 0)

	d = made(t, greatest, greatest, greatest, greatest, greatest)
	d.add(256)
	d.run(0, 0, 127)
	d.none(maxTime - 1)
	d.run(maxTime, 0, 127)
	d.none(maxTime)
	d.is(fop.Active, 256, 0)
}

// P17.1: Queued and Acked count more than what fits into a number.
func TestCounts(t *testing.T) {
	d := made(t, craft, channel, 127, 10, 3)
	for k := 0; k < 1000; k += 100 {
		d.add(100)
		d.is(fop.Active, 100, k)
		d.run(0, k, 100)
		d.is(fop.Active, 100, k)
		d.report(0, word((k+60)%256, ""), api.OK)
		d.is(fop.Active, 40, k+60)
		d.report(0, word((k+100)%256, ""), api.OK)
		d.is(fop.Active, 0, k+100)
	}
	d.unlock(0)
	d.is(fop.Active, 0, 1000)
	d.add(3)
	d.is(fop.Active, 3, 1000)
}

// P17.2: data of every size at the edges.
func TestSendSizes(t *testing.T) {
	for _, state := range states {
		d := in(t, state, 3, 2, 1)
		for _, data := range [][]byte{nil, {}, make([]byte, 0, 8), make([]byte, 1018), make([]byte, 1019), make([]byte, 5000)} {
			d.send(data, api.ErrArg)
			d.is(state, 2, 3)
		}
		sizes := []int{1, 2, 1016, 1017}
		for i, size := range sizes {
			d.send(bytes.Repeat([]byte{byte(size)}, size), api.OK)
			d.is(state, 3+i, 3)
		}
		d.unlock(100)
		d.controls(100, 3)
		d.data(100, 3, 4)
		for i, size := range sizes {
			x, ok := d.next(100)
			if !ok {
				d.report(100, word(3+d.m.frontier(), ""), api.OK)
				x, ok = d.next(100)
			}
			if !ok || x.Seq != 5+i || !bytes.Equal(x.Data, bytes.Repeat([]byte{byte(size)}, size)) {
				t.Fatalf("Next(100) = %d with %d bytes, %t, want the %d bytes of %d", x.Seq, len(x.Data), ok, size, 5+i)
			}
			if b, err := tcframe.Encode(x); err != api.OK || len(b) != size+7 {
				t.Fatalf("the encoding of a frame has %d bytes, with the error %d", len(b), err)
			}
		}
	}
}

// P17.2: at most 256 units wait, in every state; what was acknowledged does not count; ErrArg comes before ErrFull.
func TestSendFull(t *testing.T) {
	for _, state := range states {
		for _, first := range []int{0, 3, 255} {
			d := in(t, state, first, 2, 2)
			d.add(253)
			d.is(state, 255, first)
			d.add(1)
			d.is(state, 256, first)
			for range 2 {
				d.send(nil, api.ErrArg)
				d.send([]byte{}, api.ErrArg)
				d.send(make([]byte, 1018), api.ErrArg)
				d.send([]byte{1}, api.ErrFull)
				d.send(make([]byte, 1017), api.ErrFull)
				d.is(state, 256, first)
			}
			d.report(100, word((first+1)%256, ""), api.OK)
			d.add(1)
			d.send([]byte{1}, api.ErrFull)
			d.report(100, word((first+2)%256, ""), api.OK)
			d.send(nil, api.ErrArg)
			d.add(1)
			d.send([]byte{1}, api.ErrFull)
			d.is(d.m.state, 256, first+2)
			d.unlock(100)
			d.send([]byte{1}, api.ErrFull)
			d.controls(100, (first+2)%256)
			d.run(100, first+2, 4)
			d.none(100)
		}
	}
}

// P17.2: a unit that is sent is due, and behind all others, in every state.
func TestSendStates(t *testing.T) {
	for _, state := range states {
		for sent := range 3 {
			d := in(t, state, 7, 2, sent)
			d.add(1)
			d.is(state, 3, 7)
			d.probe()
			switch state {
			case fop.Active:
			case fop.Held:
				d.none(100)
				d.report(100, word(7, ""), api.OK)
			default:
				d.none(100)
				d.unlock(100)
				d.controls(100, 7)
				sent = 0
			}
			d.run(100, 7+sent, 3-sent)
			d.none(100)
		}
	}
}

// P17.2, P17.3: Send between the frames, also when all others are in flight, does not begin a repetition.
func TestSendBetween(t *testing.T) {
	d := made(t, craft, channel, 3, 10, 3)
	d.none(0)
	d.add(1)
	d.data(1, 0)
	d.none(1)
	d.add(1)
	d.data(5, 1)
	d.none(11)
	d.none(14)
	d.add(1)
	// The timer has passed its end, but a unit is due.
	d.data(20, 2)
	d.none(29)
	d.add(1)
	d.none(29)
	d.data(30, 0, 1, 2)
	d.none(30)
	d.report(30, word(2, ""), api.OK)
	d.data(30, 3)
	d.none(30)
}

// P17.3: rule 1 comes before the others: control frames are returned in every state, with units that are due, in flight or not
// there at all, and before and behind the end of the timer.
func TestControlFirst(t *testing.T) {
	for _, state := range states {
		for _, waiting := range []int{0, 1, 6} {
			for _, now := range []int{100, 109, 110, 500} {
				d := in(t, fop.Active, 9, waiting, min(waiting, 2))
				d.unlock(100)
				d.lead(state, 100)
				d.control(now, 0)
				d.is(state, waiting, 9)
				d.clone().control(now, 0x82, 0, 9)
				// Whatever the state is now, the second one follows.
				for _, other := range states[1:] {
					e := d.clone()
					if other == fop.Held && (state == fop.Locked || state == fop.Stopped) {
						continue
					}
					e.lead(other, now)
					e.control(now, 0x82, 0, 9)
					e.none(now)
					e.is(other, waiting, 9)
				}
				d.control(now, 0x82, 0, 9)
				d.is(state, waiting, 9)
				if state != fop.Active || waiting == 0 {
					d.none(now)
					d.none(now + 500)
					d.is(state, waiting, 9)
					continue
				}
				// The units are due, whatever the time is: no repetition is counted.
				d.run(now, 9, min(waiting, 4))
				d.none(now)
				if d.m.count != 0 {
					t.Fatal("the model counted a repetition")
				}
				d.probe()
			}
		}
	}
}

// P17.3: rule 2: no data frame in the states other than Active, and no unit no frame; neither repeats, counts or stops anything,
// whatever the timer is.
func TestNothingToSend(t *testing.T) {
	for _, state := range states[1:] {
		for _, sent := range []int{0, 2, 4} {
			for _, now := range []int{100, 109, 110, 111, 1000, maxTime} {
				d := in(t, state, 9, 6, sent)
				d.none(now)
				d.is(state, 6, 9)
				d.probe()
				if state != fop.Held {
					continue
				}
				// The repetitions begin when transmission does, and the first one counts as the first.
				d.report(now, word(9, ""), api.OK)
				d.run(now, 9+sent, 4-sent)
				if sent == 4 && now >= 110 {
					d.run(now, 9, 4)
				}
				d.none(now)
			}
		}
	}
	for _, retries := range []int{0, 3} {
		for _, now := range []int{0, 1, 9, 10, 11, 1000, maxTime} {
			d := made(t, craft, channel, 4, 10, retries)
			d.none(now)
			d.is(fop.Active, 0, 0)
			d.none(maxTime)
			d.is(fop.Active, 0, 0)
			d.add(1)
			d.data(now, 0)
			d.report(now, word(1, ""), api.OK)
			d.none(maxTime)
			d.is(fop.Active, 0, 1)
		}
	}
}

// P17.3: rule 3 comes before rule 4: a unit that is due is sent, and no repetition is counted.
func TestDueFirst(t *testing.T) {
	for _, retries := range []int{0, 1, 3} {
		for sent := range 4 {
			d := made(t, craft, channel, 4, 10, retries)
			d.add(6)
			d.run(0, 0, sent)
			d.data(1000, sent)
			d.is(fop.Active, 6, 0)
			d.run(1000, sent+1, 3-sent)
			d.none(1000)
			d.none(1009)
			for i := range retries {
				d.run(1010+10*i, 0, 4)
				d.none(1010 + 10*i)
			}
			d.is(fop.Active, 6, 0)
			d.none(1010 + 10*retries)
			d.is(fop.Stopped, 6, 0)
		}
	}
}

// P17.3: windows with fewer units than fit, with as many and with more.
func TestWindows(t *testing.T) {
	for _, window := range []int{1, 2, 3, 64, 126, 127} {
		for _, waiting := range []int{1, window - 1, window, window + 1, 2 * window, 256} {
			if waiting < 1 || waiting > 256 {
				continue
			}
			for _, first := range []int{0, 200, 255} {
				d := numbered(t, window, 10, 3, first, 0)
				d.add(waiting)
				shown := min(window, waiting)
				d.run(0, first, shown)
				d.none(0)
				d.none(9)
				d.run(10, first, shown)
				d.none(10)
				// The window moves by what is acknowledged, and what was in flight stays there.
				for k := 1; k <= waiting; k++ {
					d.report(10, word((first+k)%256, ""), api.OK)
					if k+window <= waiting {
						d.data(10, first+k+window-1)
					}
					d.none(10)
				}
				d.is(fop.Active, 0, first+waiting)
			}
		}
	}
}

// P17.3: the timer begins with each frame that is sent.
func TestTimer(t *testing.T) {
	for _, timeout := range []int{1, 2, 10, 1000} {
		for _, gap := range []int{0, 1, 5, 5000} {
			d := made(t, craft, channel, 3, timeout, 3)
			d.add(4)
			for k := range 3 {
				d.data(7+k*gap, k)
			}
			last := 7 + 2*gap
			d.none(last)
			d.none(last + timeout - 1)
			behind := d.clone()
			behind.run(last+timeout+1, 0, 3)
			behind.none(last + 2*timeout)
			behind.data(last+2*timeout+1, 0)
			// The frames of a repetition set the timer, too.
			d.data(last+timeout, 0)
			d.data(last+timeout+gap, 1)
			d.data(last+timeout+2*gap, 2)
			d.none(last + 2*timeout + 2*gap - 1)
			d.data(last+2*timeout+2*gap, 0)
		}
	}
}

// P17.3: a repetition begins with the first unit, in the same call, and goes on with the others.
func TestRepetition(t *testing.T) {
	d := made(t, craft, channel, 3, 10, 3)
	d.add(5)
	d.run(0, 0, 3)
	d.data(10, 0)
	d.probe()
	// The second one is due: that the timer ends makes no difference to it.
	d.data(30, 1)
	d.report(30, word(1, ""), api.OK)
	d.data(30, 2, 3)
	d.none(30)
	d.report(35, word(2, ""), api.OK)
	d.data(36, 4)
	d.none(45)
	d.data(46, 2, 3, 4)
	d.report(46, word(5, ""), api.OK)
	d.none(100)
	d.is(fop.Active, 0, 5)
}

// P17.3, P17.4: units that are acknowledged while a repetition is under way, up to the frontier.
func TestAcknowledgedWhileDue(t *testing.T) {
	for repeated := 1; repeated <= 4; repeated++ {
		for n := range 5 {
			d := made(t, craft, channel, 4, 10, 3)
			d.add(10)
			d.run(0, 0, 4)
			d.run(10, 0, repeated)
			d.report(10, word(n, ""), api.OK)
			d.is(fop.Active, 10-n, n)
			d.probe()
			from := max(repeated, n)
			d.run(10, from, 4+n-from)
			d.none(10)
			d.report(10, word(n+4, ""), api.OK)
			d.is(fop.Active, 6-n, n+4)
		}
	}
}

// P17.3: rule 4: the count of repetitions, with 0, 1 and 255 retries, and that progress clears it.
func TestRetries(t *testing.T) {
	for _, retries := range []int{0, 1, 2, 255} {
		d := made(t, craft, channel, 1, 10, retries)
		d.add(3)
		now := 0
		for k := range 3 {
			d.data(now, k)
			for range retries {
				d.none(now + 9)
				d.report(now+9, word(k, ""), api.OK)
				now += 10
				d.data(now, k)
			}
			d.none(now + 9)
			if k < 2 {
				now += 9
				d.report(now, word(k+1, ""), api.OK)
			}
		}
		d.is(fop.Active, 1, 2)
		d.none(now + 10)
		d.is(fop.Stopped, 1, 2)
		// A sending end that has stopped stays as it is.
		d.report(now+10, word(2, ""), api.OK)
		d.report(now+10, word(2, "R"), api.OK)
		d.none(now + 11)
		d.is(fop.Stopped, 1, 2)
		d.unlock(now + 12)
		d.controls(now+12, 2)
		d.data(now+12, 2)
		d.none(now + 21)
		if retries > 0 {
			d.data(now+22, 2)
		}
	}
}

// wrong returns control words that are c, but for one thing that makes them invalid or of another channel, and some with
// several.
func wrong(c api.Clcw) []api.Clcw {
	var some []api.Clcw
	for _, n := range []int{least, -1 << 32, -8, -1, 0, 2, 6, 7, 8, channel + 8, channel + 64, channel + 1<<32, greatest} {
		x := c
		x.Channel = n
		some = append(some, x)
		x.Next = 256
		some = append(some, x)
	}
	for _, n := range []int{least, -1 << 32, -4, -1, 4, 5, 8, 1 << 32, greatest} {
		x := c
		x.Bypass = n
		some = append(some, x)
	}
	for _, n := range []int{least, c.Next - 1<<32, c.Next - 256, -1, 256, 257, c.Next + 256, c.Next + 1<<32, greatest} {
		x := c
		x.Next = n
		some = append(some, x)
	}
	return some
}

// P17.4: rule 1: a control word that is not valid, or of another channel, changes nothing but the time, in every state and
// whatever else there is to it.
func TestReportWrong(t *testing.T) {
	for _, state := range states {
		for _, flags := range []string{"", "L", "W", "R", "LWR"} {
			for _, next := range []int{9, 11, 20} {
				d := in(t, state, 9, 6, 3)
				for _, c := range wrong(word(next, flags)) {
					d.report(100, c, api.ErrArg)
					d.is(state, 6, 9)
				}
				for _, bypass := range []int{0, 1, 2, 3} {
					c := word(9, "")
					c.Bypass = bypass
					d.clone().report(100, c, api.OK)
				}
				if next == 9 && flags != "W" {
					d.probe()
				}
			}
		}
	}
}

// P17.4, the rule Time: the time of a Report that returns an error counts for later calls.
func TestReportErrorTime(t *testing.T) {
	for _, c := range append(wrong(word(9, "")), word(9, "L"), word(20, "")) {
		want := api.ErrArg
		switch {
		case c == word(9, "L"):
			want = api.ErrLock
		case c == word(20, ""):
			want = api.ErrState
		}
		d := in(t, fop.Active, 9, 6, 4)
		d.report(107, c, want)
		d.timeIs(107)
		d = in(t, fop.Active, 9, 6, 4)
		d.report(110, c, want)
		d.timeIs(110)
		if want == api.ErrArg {
			// The timer has ended with the time of the control word.
			d.data(0, 9, 10, 11, 12)
			d.none(0)
			d.none(119)
			d.data(120, 9)
		}
	}
}

// P17.4: rule 2: Lockout in each state, also with a Next that would be an error, and nothing else changes.
func TestReportLockout(t *testing.T) {
	for _, state := range states {
		for _, sent := range []int{0, 2, 4} {
			for _, next := range []int{9, 10, 11, 12, 13, 14, 8, 0, 255} {
				for _, flags := range []string{"L", "LW", "LR", "LWR"} {
					d := in(t, state, 9, 6, sent)
					d.report(103, word(next, flags), api.ErrLock)
					d.is(fop.Locked, 6, 9)
					if next%2 == 1 && flags != "LW" {
						d.none(103)
						d.none(500)
						d.is(fop.Locked, 6, 9)
						continue
					}
					if next == 10 {
						d.probe()
					}
					d.report(104, word(9, ""), api.OK)
					d.is(fop.Locked, 6, 9)
					d.report(104, word(9, "W"), api.OK)
					d.is(fop.Locked, 6, 9)
				}
			}
		}
	}
}

// P17.4: rule 3: a distance of up to the frontier is acknowledged, and any greater one stops the sending end and changes nothing
// else, in each state, at numbers in the middle and at the end.
func TestReportDistance(t *testing.T) {
	for _, state := range states {
		for _, first := range []int{0, 1, 9, 253, 254, 255, 256, 257, 511} {
			for _, sent := range []int{0, 1, 2, 4} {
				for _, flags := range []string{"", "W", "R", "WR"} {
					base := in(t, state, first, 6, sent)
					for n := range 256 {
						if n > 8 && n < 250 && n%50 != 0 || flags != "" && n > 6 && n < 255 {
							continue
						}
						d := base.clone()
						c := word((first+n)%256, flags)
						if n > sent {
							d.report(103, c, api.ErrState)
							d.is(fop.Stopped, 6, first)
							d.none(103)
							d.none(500)
							d.is(fop.Stopped, 6, first)
							continue
						}
						d.report(103, c, api.OK)
						d.is(d.m.state, 6-n, first+n)
						if state == fop.Locked || state == fop.Stopped {
							d.is(state, 6-n, first+n)
						}
					}
				}
			}
		}
	}
}

// P17.4: what a Report that is an error by rule 3 leaves as it is.
func TestReportErrorState(t *testing.T) {
	for _, state := range states {
		for _, flags := range []string{"", "W", "R", "WR"} {
			d := in(t, state, 9, 6, 4)
			d.report(103, word(14, flags), api.ErrState)
			d.probe()
			// Later control words acknowledge what they would have acknowledged before.
			d.report(104, word(13, ""), api.OK)
			d.is(fop.Stopped, 2, 13)
			d.report(104, word(12, ""), api.ErrState)
			d.report(104, word(14, ""), api.ErrState)
			d.is(fop.Stopped, 2, 13)
			d.none(104)
			d.unlock(105)
			d.controls(105, 13)
			d.data(105, 13, 14)
			d.none(105)
		}
	}
}

// P17.4: distances across 255 and 0, with windows of all sizes.
func TestReportAcrossZero(t *testing.T) {
	for _, window := range []int{1, 2, 64, 127} {
		for _, back := range []int{0, 1, window / 2, window} {
			first := 256 - back
			base := numbered(t, window, 10, 3, first, 0)
			base.add(200)
			base.run(0, first, window)
			for n := range 256 {
				d := base.clone()
				c := word((first+n)%256, "")
				if n > window {
					d.report(0, c, api.ErrState)
					d.is(fop.Stopped, 200, first)
					continue
				}
				d.report(0, c, api.OK)
				d.is(fop.Active, 200-n, first+n)
				d.run(0, first+window, min(n, 200-window))
				d.none(0)
			}
		}
	}
}

// P17.4, P17.5: behind Unlock, the frontier is 0, and grows with what is transmitted again.
func TestFrontierAfterUnlock(t *testing.T) {
	for _, state := range states {
		for _, first := range []int{0, 9, 254, 255} {
			base := in(t, state, first, 6, 4)
			base.unlock(103)
			for sent := range 7 {
				// The first two frames are the control frames.
				shown := max(sent-2, 0)
				for n := range 7 {
					d := base.clone()
					c := word((first+n)%256, "")
					if n > shown {
						d.report(103, c, api.ErrState)
						d.is(fop.Stopped, 6, first)
						continue
					}
					d.report(103, c, api.OK)
					d.is(fop.Active, 6-n, first+n)
				}
				base.next(103)
			}
		}
	}
}

// P17.4: the frontier is what was transmitted at least once, also if it is due again.
func TestFrontierWhileDue(t *testing.T) {
	for _, retransmit := range []bool{false, true} {
		for n := range 7 {
			d := in(t, fop.Active, 9, 6, 3)
			if retransmit {
				d.report(100, word(9, "R"), api.OK)
				d.data(100, 9)
			} else {
				d.data(100, 12)
				d.data(110, 9)
			}
			frontier := 3
			if !retransmit {
				frontier = 4
			}
			if n > frontier {
				d.report(110, word(9+n, ""), api.ErrState)
				d.is(fop.Stopped, 6, 9)
				continue
			}
			d.report(110, word(9+n, ""), api.OK)
			d.is(fop.Active, 6-n, 9+n)
			d.probe()
		}
	}
}

// P17.4: Retransmit makes all units due, with and without progress; without it they stay in flight.
func TestRetransmit(t *testing.T) {
	for n := range 5 {
		for _, flags := range []string{"", "R"} {
			d := in(t, fop.Active, 9, 8, 4)
			d.report(101, word(9+n, flags), api.OK)
			d.is(fop.Active, 8-n, 9+n)
			d.probe()
			if flags == "R" {
				d.run(101, 9+n, 4)
			} else {
				d.run(101, 13, n)
			}
			d.none(101)
		}
	}
	// Each control word makes all due again.
	d := in(t, fop.Active, 9, 8, 4)
	for range 5 {
		d.report(101, word(9, "R"), api.OK)
		d.data(101, 9, 10)
	}
	d.report(101, word(9, ""), api.OK)
	d.data(101, 11, 12)
	d.none(101)
	// Retransmit is no repetition that counts, and does not set the timer.
	d = in(t, fop.Active, 9, 4, 4)
	for i := range 10 {
		d.report(100+i, word(9, "R"), api.OK)
	}
	d.run(110, 9, 4)
	d.none(119)
	for i := range 3 {
		d.run(120+10*i, 9, 4)
	}
	d.none(150)
	d.is(fop.Stopped, 4, 9)
}

// P17.4: Retransmit with everything acknowledged, and with nothing sent.
func TestRetransmitNothing(t *testing.T) {
	d := in(t, fop.Active, 9, 2, 2)
	d.report(101, word(11, "R"), api.OK)
	d.is(fop.Active, 0, 11)
	d.none(101)
	d.report(101, word(11, "R"), api.OK)
	d.none(500)
	d.add(1)
	d.data(500, 11)
	d = made(t, craft, channel, 2, 10, 3)
	d.report(0, word(0, "R"), api.OK)
	d.none(0)
	d.add(1)
	d.report(0, word(0, "R"), api.OK)
	d.data(0, 0)
	d.none(0)
}

// P17.4: Retransmit in the states in which nothing is sent: the units are due when transmission goes on.
func TestRetransmitStates(t *testing.T) {
	d := in(t, fop.Held, 9, 6, 4)
	d.report(101, word(9, "WR"), api.OK)
	d.is(fop.Held, 6, 9)
	d.none(101)
	d.report(102, word(10, ""), api.OK)
	d.is(fop.Active, 5, 10)
	d.data(102, 10, 11, 12, 13)
	d.none(102)
	for _, state := range []int{fop.Locked, fop.Stopped} {
		d := in(t, state, 9, 6, 4)
		d.report(101, word(10, "R"), api.OK)
		d.is(state, 5, 10)
		d.none(101)
		d.probe()
		d.unlock(102)
		d.controls(102, 10)
		d.data(102, 10, 11, 12, 13)
		d.none(102)
	}
}

// P17.4: Wait, set and cleared, in each state.
func TestWait(t *testing.T) {
	for _, c := range []struct {
		state int
		flags string
		want  int
	}{
		{fop.Active, "", fop.Active}, {fop.Active, "W", fop.Held}, {fop.Held, "", fop.Active}, {fop.Held, "W", fop.Held},
		{fop.Active, "R", fop.Active}, {fop.Active, "WR", fop.Held}, {fop.Held, "R", fop.Active}, {fop.Held, "WR", fop.Held},
		{fop.Locked, "", fop.Locked}, {fop.Locked, "W", fop.Locked}, {fop.Stopped, "", fop.Stopped}, {fop.Stopped, "W", fop.Stopped},
		{fop.Locked, "R", fop.Locked}, {fop.Locked, "WR", fop.Locked}, {fop.Stopped, "R", fop.Stopped}, {fop.Stopped, "WR", fop.Stopped},
	} {
		for n := range 3 {
			d := in(t, c.state, 9, 6, 2)
			d.report(104, word(9+n, c.flags), api.OK)
			d.is(c.want, 6-n, 9+n)
			d.probe()
			if c.want != fop.Active {
				d.none(104)
				d.none(1000)
				d.is(c.want, 6-n, 9+n)
			}
		}
		// With no unit that waits, too.
		d := in(t, c.state, 9, 0, 0)
		d.report(104, word(9, c.flags), api.OK)
		d.is(c.want, 0, 9)
	}
	// In Held, the units that were in flight stay there, and the timer goes on.
	d := in(t, fop.Active, 9, 6, 3)
	d.report(101, word(9, "W"), api.OK)
	d.none(101)
	d.report(102, word(9, ""), api.OK)
	d.data(102, 12)
	d.report(103, word(9, "W"), api.OK)
	d.none(112)
	d.report(112, word(9, ""), api.OK)
	d.data(112, 9, 10, 11, 12)
	d.none(112)
}

// P17.4: without progress, the count of repetitions and the timer stay; with progress, the count becomes 0 and the timer now.
func TestProgress(t *testing.T) {
	for _, c := range []struct{ n, timer, left int }{{0, 120, 1}, {1, 125, 3}, {2, 125, 3}, {4, 125, 3}} {
		for _, flags := range []string{"", "R", "W"} {
			d := in(t, fop.Active, 9, 8, 4)
			d.run(110, 9, 4)
			d.run(120, 9, 4)
			d.report(125, word(9+c.n, flags), api.OK)
			if flags == "W" {
				// In Held, nothing is sent that would set the timer.
				d.none(126)
				d.report(126, word(9+c.n, ""), api.OK)
			}
			now := c.timer + 10
			if flags == "R" || c.n > 0 {
				// What is due is sent first, whatever the timer is.
				d.run(now, d.m.acked+d.flying(), 4-d.flying())
				d.none(now)
				d.none(now + 9)
				now += 10
			} else {
				d.none(now - 1)
			}
			for range c.left {
				d.run(now, 9+c.n, 4)
				d.none(now + 9)
				now += 10
			}
			d.is(fop.Active, 8-c.n, 9+c.n)
			d.none(now)
			d.is(fop.Stopped, 8-c.n, 9+c.n)
		}
	}
}

// flying counts the units of the model that are in flight.
func (d *duo) flying() int {
	count := 0
	for _, u := range d.m.units {
		if !u.due {
			count++
		}
	}
	return count
}

// P17.4: the timer after progress, where no unit is due that would set it anew.
func TestProgressTimer(t *testing.T) {
	for n := 1; n <= 3; n++ {
		d := in(t, fop.Active, 9, 4, 4)
		d.report(107, word(9+n, ""), api.OK)
		d.none(107)
		d.none(116)
		d.run(117, 9+n, 4-n)
		d.none(117)
		// Nor does a control word without progress set it.
		d.report(125, word(9+n, ""), api.OK)
		d.none(126)
		d.data(127, 9+n)
	}
	// In Locked and Stopped, progress sets the timer and clears the count as well: Unlock does so anyway.
	for _, state := range []int{fop.Locked, fop.Stopped} {
		d := in(t, state, 9, 4, 4)
		d.report(107, word(11, ""), api.OK)
		d.is(state, 2, 11)
		d.probe()
	}
}

// P17.5: Unlock in each state, with and without units, at several numbers.
func TestUnlock(t *testing.T) {
	for _, state := range states {
		for _, first := range []int{0, 1, 9, 254, 255, 256, 257, 300} {
			for _, c := range []struct{ waiting, sent int }{{0, 0}, {1, 0}, {1, 1}, {3, 2}, {6, 4}} {
				d := in(t, state, first, c.waiting, c.sent)
				d.unlock(200)
				d.is(fop.Active, c.waiting, first)
				d.clone().probe()
				d.controls(200, first%256)
				d.run(200, first, min(c.waiting, 4))
				d.none(200)
				d.none(209)
				// The count of repetitions is 0.
				for i := range 3 {
					d.run(210+10*i, first, min(c.waiting, 4))
					d.none(210 + 10*i)
				}
				d.is(fop.Active, c.waiting, first)
				d.none(240)
				if c.waiting > 0 {
					d.is(fop.Stopped, c.waiting, first)
				} else {
					d.is(fop.Active, 0, first)
				}
			}
		}
	}
}

// P17.5: Unlock while control frames wait: they are replaced, not followed, by the new ones.
func TestUnlockTwice(t *testing.T) {
	for _, state := range states {
		for taken := range 3 {
			d := in(t, fop.Active, 255, 6, 2)
			d.unlock(200)
			for range taken {
				d.next(200)
			}
			d.lead(state, 200)
			d.unlock(201)
			d.is(fop.Active, 6, 255)
			d.controls(201, 255)
			d.run(201, 255, 4)
			d.none(201)
		}
	}
	d := in(t, fop.Active, 9, 0, 0)
	for range 5 {
		d.unlock(200)
	}
	d.controls(200, 9)
	d.none(200)
}

// P17.5: Unlock clears the count of repetitions and sets the timer, also if nothing is in flight.
func TestUnlockTimer(t *testing.T) {
	for _, retries := range []int{0, 1, 3} {
		d := numbered(t, 4, 10, retries, 9, 100)
		d.add(4)
		d.run(100, 9, 4)
		for i := range retries {
			d.run(110+10*i, 9, 4)
		}
		d.unlock(150)
		d.probe()
		d.controls(151, 9)
		d.run(152, 9, 4)
		d.none(161)
		for i := range retries {
			d.run(162+10*i, 9, 4)
		}
		d.none(162 + 10*retries)
		d.is(fop.Stopped, 4, 9)
	}
}

// P17.5: units that are sent, and acknowledged, between two calls of Unlock: each sets the number of its own time.
func TestUnlockNumbers(t *testing.T) {
	d := made(t, craft, channel, 4, 10, 3)
	for k := range 600 {
		d.unlock(k)
		d.add(1)
		d.controls(k, k%256)
		d.data(k, k)
		d.report(k, word((k+1)%256, ""), api.OK)
		d.none(k)
	}
	d.is(fop.Active, 0, 600)
}

// P17.1 to P17.4: more than 256 units in sequence: the numbers begin again.
func TestLongSequence(t *testing.T) {
	for _, window := range []int{1, 2, 64, 127} {
		d := made(t, craft, channel, window, 10, 3)
		total := 1000
		transmitted := 0
		for acked := 0; acked < total; {
			if d.m.acked+len(d.m.units) < total {
				d.add(min(256-len(d.m.units), total-d.total))
			}
			for {
				x, ok := d.next(acked)
				if !ok {
					break
				}
				if x.Seq != transmitted%256 || !bytes.Equal(x.Data, pattern(transmitted)) {
					t.Fatalf("Next = %+v, want the unit %d", x, transmitted)
				}
				transmitted++
			}
			if want := min(acked+window, total); transmitted != want {
				t.Fatalf("window %d: %d units were transmitted, want %d", window, transmitted, want)
			}
			acked = min(acked+1+window/2, total)
			d.report(acked, word(acked%256, ""), api.OK)
			d.is(fop.Active, d.total-acked, acked)
		}
	}
}

// given are times, with what becomes of each if the time is 100.
var given = []bound{
	{least, 100}, {least + 1, 100}, {-1 << 40, 100}, {-101, 100}, {-1, 100}, {0, 100}, {50, 100}, {99, 100}, {100, 100}, {101, 101},
	{1 << 32, 1 << 32}, {maxTime - 1, maxTime - 1}, {maxTime, maxTime}, {maxTime + 1, 100}, {maxTime + 101, 100}, {1 << 41, 100},
	{1 << 62, 100}, {greatest - 1, 100}, {greatest, 100},
}

// P17.3 to P17.5, the rule Time: the time that each method uses and leaves.
func TestTime(t *testing.T) {
	for _, timeout := range []int{1, 10} {
		base := numbered(t, 2, timeout, 3, 9, 100)
		base.add(3)
		for _, c := range given {
			for _, act := range []func(d *duo){
				func(d *duo) { d.data(c.given, 9) },
				func(d *duo) { d.data(c.given, 9, 10) },
				func(d *duo) { d.unlock(c.given) },
				func(d *duo) { d.report(c.given, word(9, ""), api.OK) },
				func(d *duo) { d.report(c.given, word(9, "L"), api.ErrLock) },
				func(d *duo) { d.report(c.given, word(10, ""), api.ErrState) },
				func(d *duo) { d.report(c.given, word(256, ""), api.ErrArg) },
				func(d *duo) { d.report(c.given, api.Clcw{Channel: 3}, api.ErrArg) },
				func(d *duo) { d.data(least, 9, 10); d.report(c.given, word(10, ""), api.OK) },
				func(d *duo) { d.report(-1, word(9, "W"), api.OK); d.none(c.given) },
				func(d *duo) { d.unlock(greatest); d.control(c.given, 0) },
				func(d *duo) { d.data(greatest, 9, 10); d.report(0, word(11, ""), api.OK); d.data(c.given, 11) },
				func(d *duo) { d.data(0, 9, 10); d.next(c.given) },
			} {
				d := base.clone()
				act(d)
				d.timeIs(c.want)
				d.probe()
			}
		}
	}
}

// P17.3, the rule Time: the timer that each time leads to, seen by the repetition.
func TestTimeOfTimer(t *testing.T) {
	for _, c := range given {
		d := numbered(t, 2, 10, 3, 9, 100)
		d.add(2)
		d.data(c.given, 9, 10)
		d.none(c.given)
		d.none(min(c.want+9, maxTime))
		if c.want+10 <= maxTime {
			d.none(least)
			d.none(greatest)
			d.data(c.want+10, 9, 10)
		} else {
			d.none(maxTime)
			d.none(greatest)
		}
		d.is(fop.Active, 2, 9)
	}
	// A time that is none does not end the timer, and the time of the call before does.
	d := numbered(t, 2, 10, 3, 9, 100)
	d.add(2)
	d.data(100, 9, 10)
	for _, now := range []int{least, -1, 0, 109, maxTime + 1, greatest} {
		d.none(now)
	}
	d.report(110, word(256, ""), api.ErrArg)
	d.data(greatest, 9, 10)
	d.none(119)
	d.data(120, 9)
}

// P17.3: timers that end behind the greatest time never end.
func TestTimerBehindTime(t *testing.T) {
	d := made(t, craft, channel, 1, maxTime, 3)
	d.add(1)
	d.data(1, 0)
	d.none(maxTime)
	d.none(maxTime + 1)
	d.none(greatest)
	d = made(t, craft, channel, 1, greatest, 3)
	d.add(1)
	d.data(0, 0)
	d.none(maxTime - 1)
	d.data(maxTime, 0)
	d.none(greatest)
	d = made(t, craft, channel, 1, 1, 0)
	d.add(1)
	d.data(maxTime, 0)
	d.none(maxTime)
	d.none(greatest)
	d.is(fop.Active, 1, 0)
}

// P17.6: in each state, a clone is as its original, and neither is changed by what is done to the other.
func TestClone(t *testing.T) {
	changes := []func(d *duo){
		func(d *duo) { d.add(3) },
		func(d *duo) { d.send(nil, api.ErrArg) },
		func(d *duo) { d.next(105) },
		func(d *duo) { d.next(200); d.next(201); d.next(300) },
		func(d *duo) { d.report(105, word(10, "R"), api.OK) },
		func(d *duo) { d.report(105, word(12, ""), api.OK); d.add(2) },
		func(d *duo) { d.report(105, word(9, "W"), api.OK) },
		func(d *duo) { d.report(105, word(9, "L"), api.ErrLock) },
		func(d *duo) { d.report(105, word(30, ""), api.ErrState) },
		func(d *duo) { d.report(500, word(256, ""), api.ErrArg) },
		func(d *duo) { d.unlock(105) },
		func(d *duo) { d.unlock(105); d.next(105); d.next(105); d.next(105); d.next(105) },
	}
	for _, state := range states {
		for i, change := range changes {
			for _, swap := range []bool{false, true} {
				d := in(t, state, 9, 6, 3)
				e := d.clone()
				if swap {
					d, e = e, d
				}
				change(d)
				e.is(state, 6, 9)
				e.probe()
				d.probe()
				changes[(i+5)%len(changes)](e.clone())
				e.is(state, 6, 9)
				changes[(i*5+1)%len(changes)](e)
				d.probe()
			}
		}
	}
}

// P17.6: the control frames of a clone are its own, whichever of them were sent.
func TestCloneControls(t *testing.T) {
	for taken := range 3 {
		d := in(t, fop.Stopped, 9, 3, 2)
		d.unlock(100)
		for range taken {
			d.next(100)
		}
		e := d.clone().clone()
		for _, one := range []*duo{d, e} {
			if taken < 1 {
				one.control(100, 0)
			}
			if taken < 2 {
				one.control(100, 0x82, 0, 9)
			}
			one.data(100, 9, 10, 11)
			one.none(100)
		}
	}
}

// P17.6: units that are added to two clones in turn stay apart.
func TestCloneUnits(t *testing.T) {
	for before := range 20 {
		d := made(t, craft, channel, 127, 10, 3)
		d.add(before)
		e := d.clone()
		for k := range 40 {
			d.send([]byte{1, byte(k)}, api.OK)
			e.send([]byte{2, byte(k)}, api.OK)
		}
		for which, one := range []*duo{d, e} {
			one.run(0, 0, before)
			for k := range 40 {
				if x, ok := one.next(0); !ok || !bytes.Equal(x.Data, []byte{byte(which + 1), byte(k)}) {
					t.Fatalf("Next = %+v, %t", x, ok)
				}
			}
			one.report(0, word(before+which, ""), api.OK)
			d.agree("Report")
			e.agree("Report")
		}
	}
}

// The rule Nil objects: nil and zero values return ErrNil and zero values, and stay as they are.
func TestNil(t *testing.T) {
	for _, f := range []*fop.Fop{nil, {}, new(fop.Fop)} {
		for range 2 {
			for _, data := range [][]byte{nil, {}, {1}, make([]byte, 1017), make([]byte, 1018)} {
				if got := f.Send(data); got != api.ErrNil {
					t.Fatalf("Send of %d bytes: %d", len(data), got)
				}
			}
			for _, now := range []int{least, -1, 0, 1, maxTime, maxTime + 1, greatest} {
				if x, ok := f.Next(now); ok || !sameFrame(x, api.TcFrame{}) {
					t.Fatalf("Next(%d) = %+v, %t", now, x, ok)
				}
				for _, c := range []api.Clcw{{}, {Next: 1}, {Lockout: true}, {Channel: 8}, {Wait: true, Retransmit: true}} {
					if got := f.Report(c, now); got != api.ErrNil {
						t.Fatalf("Report(%+v, %d) = %d", c, now, got)
					}
				}
				if got := f.Unlock(now); got != api.ErrNil {
					t.Fatalf("Unlock(%d) = %d", now, got)
				}
			}
			if s, q, a := f.State(), f.Queued(), f.Acked(); s != 0 || q != 0 || a != 0 {
				t.Fatalf("State, Queued, Acked = %d, %d, %d", s, q, a)
			}
			if f.Clone() != nil {
				t.Fatal("Clone is not nil")
			}
		}
	}
}

// The rule Memory: what was given to Send is not retained.
func TestMemorySend(t *testing.T) {
	d := made(t, craft, channel, 4, 10, 3)
	backing := []byte{1, 2, 3, 4, 5, 6, 7, 8}
	for i := range 3 {
		if got := d.f.Send(backing[2+i : 4+i]); got != api.OK {
			t.Fatalf("Send: %d", got)
		}
	}
	if !bytes.Equal(backing, []byte{1, 2, 3, 4, 5, 6, 7, 8}) {
		t.Fatalf("Send changed the bytes to % X", backing)
	}
	e := d.f.Clone()
	for i := range backing {
		backing[i] = 0xEE
	}
	for _, f := range []*fop.Fop{d.f, e} {
		for _, now := range []int{0, 10} {
			for i := range 3 {
				x, ok := f.Next(now)
				if want := []byte{byte(3 + i), byte(4 + i)}; !ok || !bytes.Equal(x.Data, want) {
					t.Fatalf("Next(%d) = % X, %t, want % X", now, x.Data, ok, want)
				}
			}
		}
	}
	if !bytes.Equal(backing, bytes.Repeat([]byte{0xEE}, 8)) {
		t.Fatalf("the bytes were changed to % X", backing)
	}
}

// spoil overwrites a slice up to its capacity.
func spoil(b []byte) {
	all := b[:cap(b)]
	for i := range all {
		all[i] = 0x55
	}
}

// The rule Memory: the frames share no memory with what is retained, with each other or with those of a clone.
func TestMemoryFrames(t *testing.T) {
	d := made(t, craft, channel, 3, 10, 3)
	d.add(3)
	twin := d.f.Clone()
	var frames []api.TcFrame
	for range 3 {
		x, _ := d.f.Next(0)
		frames = append(frames, x)
	}
	late := d.f.Clone()
	for i := range frames {
		spoil(frames[i].Data)
		for j := i + 1; j < 3; j++ {
			if !bytes.Equal(frames[j].Data, pattern(j)) {
				t.Fatalf("the frame %d shares memory with the frame %d", j, i)
			}
		}
	}
	for _, f := range []*fop.Fop{d.f, twin, late} {
		for _, now := range []int{10, 20, 30} {
			for k := range 3 {
				x, ok := f.Next(now)
				if !ok || !bytes.Equal(x.Data, pattern(k)) {
					t.Fatalf("Next(%d) = % X, %t, want % X", now, x.Data, ok, pattern(k))
				}
				spoil(x.Data)
			}
		}
	}
}

// The rule Memory: control frames share no memory with each other, with those of a clone or with those of another Unlock.
func TestMemoryControls(t *testing.T) {
	d := made(t, craft, channel, 3, 10, 3)
	d.f.Unlock(0)
	twin := d.f.Clone()
	first, _ := d.f.Next(0)
	spoil(first.Data)
	late := d.f.Clone()
	check := func(f *fop.Fop, wants ...[]byte) {
		t.Helper()
		for _, want := range wants {
			x, ok := f.Next(0)
			if !ok || !bytes.Equal(x.Data, want) {
				t.Fatalf("Next = % X, %t, want % X", x.Data, ok, want)
			}
			spoil(x.Data)
		}
	}
	clear, set := []byte{0}, []byte{0x82, 0, 0}
	check(d.f, set)
	check(twin, clear, set)
	check(late, set)
	for range 2 {
		d.f.Unlock(0)
		check(d.f, clear, set)
	}
}

// P17.1, the rule Determinism: sending ends do not affect each other.
func TestSeparate(t *testing.T) {
	d, e := made(t, craft, channel, 2, 10, 3), made(t, craft, channel, 2, 10, 3)
	d.add(4)
	e.is(fop.Active, 0, 0)
	d.data(500, 0, 1)
	e.none(0)
	e.add(1)
	e.data(0, 0)
	d.report(501, word(0, "L"), api.ErrLock)
	e.is(fop.Active, 1, 0)
	d.unlock(502)
	e.none(9)
	e.data(10, 0)
	d.controls(502, 0)
	d.is(fop.Active, 4, 0)
}

// anyTime returns a time that follows no rule, mostly a little later than before.
func anyTime(next func() uint64, m *model) int {
	switch next() % 16 {
	case 0:
		return m.now - int(next()%20)
	case 1:
		return []int{least, -1, 0, maxTime + 1, greatest}[next()%5]
	case 2:
		return m.timer + m.timeout - 1
	case 3, 4:
		return m.timer + m.timeout
	case 5:
		return m.timer + m.timeout + int(next()%5)
	}
	return m.now + int(next()%3)
}

// anyWord returns a control word that follows no rule, mostly one that makes sense.
func anyWord(next func() uint64, m *model) api.Clcw {
	frontier := m.frontier()
	c := api.Clcw{Channel: m.channel, Bypass: int(next() % 4), Wait: next()%6 == 0, Retransmit: next()%5 == 0, Lockout: next()%30 == 0}
	n := int(next()) % (frontier + 1)
	switch next() % 40 {
	case 0:
		n = frontier + 1
	case 1:
		n = int(next() % 256)
	case 2, 3, 4, 5:
		n = frontier
	case 6, 7, 8, 9:
		n = 0
	}
	c.Next = (m.acked + n) % 256
	if next()%15 == 0 {
		some := wrong(c)
		c = some[int(next())%len(some)]
	}
	return c
}

// step makes a call that follows no rule, and returns a word for it.
func (d *duo) step(next func() uint64) string {
	d.t.Helper()
	switch n := next() % 100; {
	case n < 25:
		size := 1 + int(next()%5)
		if next()%20 == 0 {
			size = []int{0, 1017, 1018}[next()%3]
		}
		data := make([]byte, size)
		for i := range data {
			data[i] = byte(next())
		}
		want := d.m.clone().send(data)
		d.send(data, want)
		return "send " + strconv.Itoa(int(want))
	case n < 75:
		before := *d.m
		x, ok := d.next(anyTime(next, d.m))
		switch {
		case ok && x.Control:
			return "control"
		case ok && d.m.count > before.count:
			return "repetition"
		case ok:
			return "data"
		case d.m.state != before.state:
			return "gives up"
		}
		return "none"
	case n < 98:
		now, c := anyTime(next, d.m), anyWord(next, d.m)
		want := d.m.clone().report(c, now)
		d.report(now, c, want)
		return "report " + strconv.Itoa(int(want))
	}
	d.unlock(anyTime(next, d.m))
	return "unlock"
}

// P17.1 to P17.6, P17.8: sequences of calls that follow no rule, and clones that go ways of their own.
func TestAnyCalls(t *testing.T) {
	next := pseudo(1)
	seen := map[string]int{}
	visits := make([]int, 5)
	for range 400 {
		window := []int{1, 2, 3, 4, 10, 64, 126, 127}[next()%8]
		timeout := []int{1, 2, 5, 20}[next()%4]
		retries := []int{0, 1, 2, 5, 255}[next()%5]
		d := made(t, int(next()%1024), int(next()%8), window, timeout, retries)
		if next()%4 == 0 {
			d.next(maxTime - int(next()%1000))
		}
		for range int(next() % 260) {
			d.send([]byte{byte(next())}, api.OK)
			if len(d.m.units) == 256 {
				break
			}
		}
		for range 400 {
			seen[d.step(next)]++
			visits[d.m.state]++
			if d.m.state > fop.Held && next()%10 == 0 {
				d.unlock(anyTime(next, d.m))
			}
			if next()%40 == 0 {
				e := d.clone()
				for range 20 {
					e.step(next)
				}
				d.agree("calls on a clone")
			}
		}
	}
	for _, kind := range []string{
		"send 0", "send 1", "send 7", "control", "data", "repetition", "gives up", "none", "report 0", "report 1", "report 12", "report 14",
		"unlock",
	} {
		if seen[kind] < 100 {
			t.Errorf("%q was seen %d times only", kind, seen[kind])
		}
	}
	for _, state := range states {
		if visits[state] < 1000 {
			t.Errorf("the state %d was seen %d times only", state, visits[state])
		}
	}
}

// P17.8: in any sequence of calls, the numbers of the data frames are among the first window ones that have not been
// acknowledged, and each frame has the data of its number.
func TestWithinWindow(t *testing.T) {
	next := pseudo(2)
	for range 60 {
		window := 1 + int(next()%127)
		f, m := fop.New(craft, channel, window, 5, 255), newModel(craft, channel, window, 5, 255)
		total, frames := 0, 0
		for range 3000 {
			if next()%3 == 0 && f.Send(pattern(total)) == api.OK {
				m.send(pattern(total))
				total++
			}
			now := anyTime(next, m)
			x, ok := f.Next(now)
			m.next(now)
			if ok && !x.Control {
				frames++
				n := (x.Seq - f.Acked()%256 + 256) % 256
				if n >= window || n >= f.Queued() || !bytes.Equal(x.Data, pattern(f.Acked()+n)) {
					t.Fatalf("Next = %+v, with %d units acknowledged and %d waiting", x, f.Acked(), f.Queued())
				}
			}
			if next()%4 == 0 {
				c, now := anyWord(next, m), anyTime(next, m)
				f.Report(c, now)
				m.report(c, now)
			}
			if f.State() > fop.Held {
				f.Unlock(now)
				m.unlock(now)
			}
		}
		if frames < 500 {
			t.Fatalf("only %d data frames were returned", frames)
		}
	}
}

// path transmits items with a delay, and loses some of them.
type path[T any] struct {
	delay int
	items []T
	due   []int
}

// put gives an item to the path.
func (p *path[T]) put(x T, now int) {
	p.items, p.due = append(p.items, x), append(p.due, now+p.delay)
}

// take returns the items that have arrived.
func (p *path[T]) take(now int) []T {
	n := 0
	for n < len(p.due) && p.due[n] <= now {
		n++
	}
	arrived := p.items[:n]
	p.items, p.due = p.items[n:], p.due[n:]
	return arrived
}

// contact is a sending end with a receiving end, and the paths between them.
type contact struct {
	f       *fop.Fop
	r       *farm.Farm
	up      path[api.TcFrame]
	down    path[api.Clcw]
	arrived [][]byte
}

// tick lets a tick pass; lost says what the paths lose.
func (c *contact) tick(t *testing.T, now int, lost func() bool) {
	t.Helper()
	for _, x := range c.up.take(now) {
		if data, verdict := c.r.Take(x, true); verdict == farm.Delivered {
			c.arrived = append(c.arrived, data)
		}
	}
	if !lost() {
		c.down.put(c.r.Report(), now)
	}
	for _, x := range c.down.take(now) {
		if err := c.f.Report(x, now); err != api.OK {
			t.Fatalf("Report(%+v, %d) = %d", x, now, err)
		}
	}
	for range 4 {
		if x, ok := c.f.Next(now); ok && !lost() {
			c.up.put(x, now)
		}
	}
}

// P17.7: with losses in both directions for a while, all units arrive once and in order, and none waits any more.
func TestLossyContact(t *testing.T) {
	next := pseudo(3)
	for _, window := range []int{1, 2, 5, 64, 127} {
		for _, delay := range []int{0, 1, 7} {
			for _, rate := range []uint64{0, 10, 50, 90, 100} {
				c := contact{f: fop.New(craft, channel, window, 20, 255), r: farm.New(craft, channel, window)}
				c.up.delay, c.down.delay = delay, delay
				const total, calm = 600, 1500
				sent := 0
				for now := 0; now < 60000 && (now < calm || sent < total || c.f.Queued() > 0); now++ {
					for ; sent < total && next()%3 > 0; sent++ {
						if c.f.Send(pattern(sent)) != api.OK {
							break
						}
					}
					c.tick(t, now, func() bool { return now < calm && next()%100 < rate })
				}
				if got := c.f.State(); got != fop.Active {
					t.Fatalf("window %d, delay %d, losses %d: the state is %d", window, delay, rate, got)
				}
				if c.f.Queued() != 0 || c.f.Acked() != total || len(c.arrived) != total {
					t.Fatalf("window %d, delay %d, losses %d: %d units wait, %d are acknowledged, %d arrived",
						window, delay, rate, c.f.Queued(), c.f.Acked(), len(c.arrived))
				}
				for k, data := range c.arrived {
					if !bytes.Equal(data, pattern(k)) {
						t.Fatalf("window %d, delay %d, losses %d: the unit %d arrived as % X", window, delay, rate, k, data)
					}
				}
			}
		}
	}
}

// P17.4, P17.5: a receiving end that has locked out everything is unlocked and set to the number of the sending end, and
// transmission goes on.
func TestLockoutContact(t *testing.T) {
	for _, first := range []int{0, 1, 200, 255} {
		c := contact{f: fop.New(craft, channel, 4, 20, 3), r: farm.New(craft, channel, 4)}
		tick, sent := 0, 0
		finish := func() {
			for range 400 {
				c.tick(t, tick, func() bool { return false })
				tick++
			}
		}
		for ; sent < first; sent++ {
			if err := c.f.Send(pattern(sent)); err != api.OK {
				t.Fatalf("Send: %d", err)
			}
		}
		finish()
		c.r.Take(api.TcFrame{Craft: craft, Channel: channel, Seq: (first + 100) % 256, Data: []byte{1}}, true)
		for ; sent < first+10; sent++ {
			c.f.Send(pattern(sent))
		}
		if err := c.f.Report(c.r.Report(), tick); err != api.ErrLock || c.f.State() != fop.Locked {
			t.Fatalf("Report = %d, and the state %d", err, c.f.State())
		}
		if x, ok := c.f.Next(tick); ok {
			t.Fatalf("Next = %+v", x)
		}
		c.f.Unlock(tick)
		for _, wanted := range []int{farm.Control, farm.Control, farm.Delivered} {
			x, ok := c.f.Next(tick)
			data, verdict := c.r.Take(x, true)
			if !ok || verdict != wanted {
				t.Fatalf("Next = %+v, %t, with the verdict %d, want %d", x, ok, verdict, wanted)
			}
			if verdict == farm.Delivered {
				c.arrived = append(c.arrived, data)
			}
		}
		finish()
		if c.f.Queued() != 0 || c.f.State() != fop.Active || len(c.arrived) != first+10 {
			t.Fatalf("%d units wait, %d arrived, the state is %d", c.f.Queued(), len(c.arrived), c.f.State())
		}
		for k, data := range c.arrived {
			if !bytes.Equal(data, pattern(k)) {
				t.Fatalf("the unit %d arrived as % X", k, data)
			}
		}
	}
}

// P17.4, P17.7: a receiving end without room, which has room again while frames are under way.
func TestWaitingContact(t *testing.T) {
	f, r := fop.New(craft, channel, 4, 20, 3), farm.New(craft, channel, 4)
	for k := range 6 {
		f.Send(pattern(k))
	}
	take := func(now int, room bool, want int) {
		t.Helper()
		x, ok := f.Next(now)
		if _, verdict := r.Take(x, room); !ok || verdict != want {
			t.Fatalf("Next(%d) = %+v, %t, with the verdict %d, want %d", now, x, ok, verdict, want)
		}
	}
	take(0, true, farm.Delivered)
	take(0, false, farm.NoRoom)
	late, _ := f.Next(0)
	if err := f.Report(r.Report(), 1); err != api.OK || f.State() != fop.Held || f.Queued() != 5 {
		t.Fatalf("Report = %d, the state is %d, %d units wait", err, f.State(), f.Queued())
	}
	if x, ok := f.Next(100); ok {
		t.Fatalf("Next(100) = %+v", x)
	}
	if _, verdict := r.Take(late, true); verdict != farm.Gap {
		t.Fatalf("the verdict %d", verdict)
	}
	// A frame that was under way ends the wait.
	r.Take(api.TcFrame{Craft: craft, Channel: channel, Seq: 1, Data: pattern(1)}, true)
	if err := f.Report(r.Report(), 101); err != api.OK || f.State() != fop.Active || f.Queued() != 4 {
		t.Fatalf("Report = %d, the state is %d, %d units wait", err, f.State(), f.Queued())
	}
	for range 4 {
		take(102, true, farm.Delivered)
	}
	if err := f.Report(r.Report(), 103); err != api.OK || f.Queued() != 0 || f.Acked() != 6 {
		t.Fatalf("Report = %d, %d units wait", err, f.Queued())
	}
}
