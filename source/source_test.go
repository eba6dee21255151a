package source_test

import (
	"bytes"
	"fmt"
	"math"
	"slices"
	"strings"
	"testing"

	"spacecraft/api"
	"spacecraft/pdu"
	"spacecraft/source"
)

const (
	least    = math.MinInt
	greatest = math.MaxInt
	maxTime  = 1 << 40
	// file is the greatest number of bytes of a file.
	file = 65536
)

// The kinds of units by the numbers of their chapter's table.
const (
	metadata = 1
	fileData = 2
	eof      = 3
	nak      = 4
	finished = 5
	ackEOF   = 6
	ackDone  = 7
)

// The states of a transaction.
const (
	unknown   = 0
	active    = 1
	waits     = 2
	suspended = 3
	done      = 4
	failed    = 5
	cancelled = 6
)

// id is that of most transactions.
var id = api.FileID{Source: 3, Number: 300}

// pseudo returns numbers that follow no simple rule but are the same in every run.
func pseudo(seed uint64) func(n int) int {
	x := seed*0x9E3779B97F4A7C15 + 1
	return func(n int) int {
		x ^= x << 13
		x ^= x >> 7
		x ^= x << 17
		return int(x>>20) % n
	}
}

// contents returns the contents of a file of size bytes, in which no two pieces that are near each other are the same.
func contents(size int) []byte {
	b := make([]byte, size)
	for k := range b {
		b[k] = byte(k*37 + k>>8*11 + 200)
	}
	return b
}

// sum is the checksum of a file: the sum of its big-endian words of 4 bytes, the last one padded with zero bytes.
func sum(b []byte) uint32 {
	var total uint32
	for len(b) > 0 {
		var word [4]byte
		n := copy(word[:], b)
		b = b[n:]
		total += uint32(word[0])<<24 | uint32(word[1])<<16 | uint32(word[2])<<8 | uint32(word[3])
	}
	return total
}

// config returns a configuration.
func config(chunk, timeout, retries int) api.FileConfig {
	return api.FileConfig{Chunk: chunk, Timeout: timeout, Retries: retries}
}

// transaction is what New is given.
type transaction struct {
	id     api.FileID
	class  int
	name   string
	data   []byte
	config api.FileConfig
}

// usual is a transaction of class 2 that the tests vary.
func usual() transaction {
	return transaction{id: id, class: 2, name: "some-file", data: contents(10), config: config(4, 10, 3)}
}

// metadata, piece, eof and ackDone return the units of the sending end.
func (x transaction) metadata() api.Pdu {
	return api.Pdu{Kind: metadata, ID: x.id, Class: x.class, Size: len(x.data), Name: x.name}
}

func (x transaction) piece(from, to int) api.Pdu {
	return api.Pdu{Kind: fileData, ID: x.id, Offset: from, Data: bytes.Clone(x.data[from:to])}
}

func (x transaction) eof(code api.Errno) api.Pdu {
	return api.Pdu{Kind: eof, ID: x.id, Class: x.class, Size: len(x.data), Sum: sum(x.data), Code: code}
}

func (x transaction) ackDone() api.Pdu { return api.Pdu{Kind: ackDone, ID: x.id} }

// ackEOF, finished and nak return the units of the receiver; the numbers are the ends of the gaps.
func (x transaction) ackEOF() api.Pdu { return api.Pdu{Kind: ackEOF, ID: x.id} }

func (x transaction) finished(code api.Errno) api.Pdu {
	return api.Pdu{Kind: finished, ID: x.id, Code: code}
}

func (x transaction) nak(ends ...int) api.Pdu {
	p := api.Pdu{Kind: nak, ID: x.id}
	for i := 0; i < len(ends); i += 2 {
		p.Gaps = append(p.Gaps, api.Range{From: ends[i], To: ends[i+1]})
	}
	return p
}

// all returns the units that are sent if there are no answers.
func (x transaction) all() []api.Pdu {
	units := []api.Pdu{x.metadata()}
	for from := 0; from < len(x.data); from += x.config.Chunk {
		units = append(units, x.piece(from, min(from+x.config.Chunk, len(x.data))))
	}
	return append(units, x.eof(0))
}

// same reports whether two units are the same.
func same(x, y api.Pdu) bool {
	return x.Kind == y.Kind && x.ID == y.ID && x.Class == y.Class && x.Name == y.Name && x.Size == y.Size &&
		x.Offset == y.Offset && bytes.Equal(x.Data, y.Data) && x.Sum == y.Sum && x.Code == y.Code && slices.Equal(x.Gaps, y.Gaps)
}

// model is a sending end as the chapter describes it.
type model struct {
	transaction
	phase        string
	suspended    bool
	position     int
	announced    bool
	asksMetadata bool
	asks         []bool
	acknowledged bool
	timer        int
	repetitions  int
	due          bool
	code         api.Errno
	now          int
}

// clone is Clone.
func (m *model) clone() *model {
	n := *m
	n.asks = slices.Clone(m.asks)
	return &n
}

// pass is the rule Time.
func (m *model) pass(now int) {
	if now >= 0 && now <= maxTime {
		m.now = max(m.now, now)
	}
}

// live reports whether the phase is sending or waiting.
func (m *model) live() bool { return m.phase == "sending" || m.phase == "waiting" }

// forget is the end of all requests.
func (m *model) forget() {
	m.asksMetadata = false
	clear(m.asks)
}

// next is Next.
func (m *model) next(now int) (api.Pdu, bool) {
	m.pass(now)
	if m.suspended {
		return api.Pdu{}, false
	}
	if m.due {
		m.due = false
		if m.phase == "closing" {
			m.phase = "failed"
			if m.code == 0 {
				m.phase = "done"
			}
		}
		return m.ackDone(), true
	}
	if m.phase == "cancelling" {
		m.phase = "cancelled"
		return m.eof(17), true
	}
	if m.phase == "done" || m.phase == "failed" || m.phase == "cancelled" {
		return api.Pdu{}, false
	}
	if m.asksMetadata {
		m.asksMetadata = false
		return m.metadata(), true
	}
	if from := slices.Index(m.asks, true); from >= 0 {
		to := from
		for to < len(m.asks) && m.asks[to] && to-from < m.config.Chunk {
			m.asks[to] = false
			to++
		}
		return m.piece(from, to), true
	}
	if m.phase == "sending" {
		return m.proceed(), true
	}
	return m.remind()
}

// proceed is the rules 7 to 9 of Next.
func (m *model) proceed() api.Pdu {
	if !m.announced {
		m.announced = true
		return m.metadata()
	}
	if m.position < len(m.data) {
		from := m.position
		for m.position < len(m.data) && m.position-from < m.config.Chunk {
			m.position++
		}
		return m.piece(from, m.position)
	}
	m.phase = "done"
	if m.class == 2 {
		m.phase, m.timer, m.repetitions = "waiting", m.now, 0
	}
	return m.eof(0)
}

// remind is the rules 10 and 11 of Next.
func (m *model) remind() (api.Pdu, bool) {
	if m.acknowledged || m.now < m.timer+m.config.Timeout {
		return api.Pdu{}, false
	}
	if m.repetitions >= m.config.Retries {
		m.phase, m.code = "failed", 10
		return api.Pdu{}, false
	}
	m.repetitions++
	m.timer = m.now
	return m.eof(0), true
}

// take is Take.
func (m *model) take(p api.Pdu, now int) api.Errno {
	m.pass(now)
	if !pdu.Valid(p) || p.ID != m.id || p.Kind != nak && p.Kind != finished && p.Kind != ackEOF {
		return 1
	}
	if m.class == 1 {
		return 12
	}
	switch p.Kind {
	case ackEOF:
		if m.phase == "sending" {
			return 12
		}
		m.acknowledged = m.acknowledged || m.phase == "waiting"
	case nak:
		return m.request(p.Gaps)
	case finished:
		if m.live() {
			m.phase, m.code = "closing", p.Code
			m.due = true
			m.forget()
		} else if m.phase != "closing" {
			m.due = true
		}
	}
	return 0
}

// request is Take of a Nak.
func (m *model) request(gaps []api.Range) api.Errno {
	for _, gap := range gaps {
		if gap.To > len(m.data) {
			return 4
		}
	}
	if !m.live() {
		return 0
	}
	for _, gap := range gaps {
		if gap.To == 0 {
			m.asksMetadata = true
		}
		for k := gap.From; k < gap.To; k++ {
			m.asks[k] = true
		}
	}
	m.timer, m.repetitions = m.now, 0
	return 0
}

// suspend is Suspend.
func (m *model) suspend(now int) api.Errno {
	m.pass(now)
	if m.suspended || !m.live() {
		return 12
	}
	m.suspended = true
	return 0
}

// resume is Resume.
func (m *model) resume(now int) api.Errno {
	m.pass(now)
	if !m.suspended {
		return 12
	}
	m.suspended, m.timer = false, m.now
	return 0
}

// cancel is Cancel.
func (m *model) cancel() api.Errno {
	if !m.live() {
		return 12
	}
	m.code, m.suspended, m.phase = 17, false, "cancelled"
	if m.class == 2 {
		m.phase = "cancelling"
	}
	m.forget()
	return 0
}

// state is State.
func (m *model) state() int {
	if m.suspended {
		return suspended
	}
	return map[string]int{
		"sending": active, "waiting": waits, "closing": waits, "cancelling": waits,
		"done": done, "failed": failed, "cancelled": cancelled,
	}[m.phase]
}

// duo is a sending end with its model; every call is made of both of them, and has to have the same results.
type duo struct {
	t *testing.T
	s *source.Source
	m *model
}

// made returns the sending end of a transaction, for which New must have no error.
func made(t *testing.T, x transaction) *duo {
	t.Helper()
	given := bytes.Clone(x.data)
	s, err := source.New(x.id, x.class, x.name, given, x.config)
	if s == nil || err != api.OK {
		t.Fatalf("New(%v, %d, %q, %d bytes, %v) = %p, %d", x.id, x.class, x.name, len(x.data), x.config, s, err)
	}
	if !bytes.Equal(given, x.data) {
		t.Fatal("New changed the data")
	}
	// What becomes of the data later does not matter.
	spoil(given)
	d := &duo{t: t, s: s, m: &model{transaction: x, phase: "sending", asks: make([]bool, len(x.data))}}
	d.is(active, 0)
	return d
}

// spoil overwrites a slice up to its capacity.
func spoil(b []byte) {
	for i := range b[:cap(b)] {
		b[:cap(b)][i] ^= 0x55
	}
}

// clone returns a clone of both.
func (d *duo) clone() *duo {
	d.t.Helper()
	s := d.s.Clone()
	if s == nil || s == d.s {
		d.t.Fatal("Clone returned nil or its own sending end")
	}
	e := &duo{t: d.t, s: s, m: d.m.clone()}
	e.agree("Clone")
	return e
}

// is checks the state and the code.
func (d *duo) is(state int, code api.Errno) {
	d.t.Helper()
	for range 2 {
		if s, c := d.s.State(), d.s.Code(); s != state || c != code {
			d.t.Fatalf("State, Code = %d, %d, want %d, %d", s, c, state, code)
		}
	}
}

// agree checks the same against the model.
func (d *duo) agree(call string) {
	d.t.Helper()
	if s, c := d.s.State(), d.s.Code(); s != d.m.state() || c != d.m.code {
		d.t.Fatalf("after %s: State, Code = %d, %d, want %d, %d, in the phase %s", call, s, c, d.m.state(), d.m.code, d.m.phase)
	}
}

// next calls Next.
func (d *duo) next(now int) (api.Pdu, bool) {
	d.t.Helper()
	phase := d.m.phase
	want, expected := d.m.next(now)
	got, ok := d.s.Next(now)
	if ok != expected || !same(got, want) {
		d.t.Fatalf("in the phase %s: Next(%d) = %+v, %t, want %+v, %t", phase, now, got, ok, want, expected)
	}
	if ok && (!pdu.Valid(got) || !pdu.Forward(got.Kind)) {
		d.t.Fatalf("Next(%d) = %+v, which no sending end may send", now, got)
	}
	d.agree("Next")
	// What becomes of the data later does not matter.
	spoil(got.Data)
	return want, ok
}

// sends calls Next, which has to return these units.
func (d *duo) sends(now int, units ...api.Pdu) {
	d.t.Helper()
	for _, want := range units {
		if got, ok := d.next(now); !ok || !same(got, want) {
			d.t.Fatalf("Next(%d) = %+v, %t, want %+v", now, got, ok, want)
		}
	}
}

// none calls Next, which must not return a unit.
func (d *duo) none(times ...int) {
	d.t.Helper()
	for _, now := range times {
		if got, ok := d.next(now); ok {
			d.t.Fatalf("Next(%d) = %+v, true, want none", now, got)
		}
	}
}

// take calls Take.
func (d *duo) take(p api.Pdu, now int) api.Errno {
	d.t.Helper()
	phase := d.m.phase
	given := p
	given.Gaps, given.Data = slices.Clone(p.Gaps), slices.Clone(p.Data)
	want := d.m.take(p, now)
	got := d.s.Take(given, now)
	if got != want {
		d.t.Fatalf("in the phase %s: Take(%+v, %d) = %d, want %d", phase, p, now, got, want)
	}
	if !same(given, p) {
		d.t.Fatalf("Take changed %+v to %+v", p, given)
	}
	d.agree("Take")
	// What becomes of the gaps later does not matter.
	for i := range given.Gaps {
		given.Gaps[i] = api.Range{From: -1, To: file + 1}
	}
	return got
}

// takes calls Take, which has to return want.
func (d *duo) takes(p api.Pdu, now int, want api.Errno) {
	d.t.Helper()
	if got := d.take(p, now); got != want {
		d.t.Fatalf("Take(%+v, %d) = %d, want %d", p, now, got, want)
	}
}

// suspend calls Suspend.
func (d *duo) suspend(now int) api.Errno {
	d.t.Helper()
	want := d.m.suspend(now)
	got := d.s.Suspend(now)
	if got != want {
		d.t.Fatalf("in the phase %s: Suspend(%d) = %d, want %d", d.m.phase, now, got, want)
	}
	d.agree("Suspend")
	return got
}

// suspends calls Suspend, which has to return want.
func (d *duo) suspends(now int, want api.Errno) {
	d.t.Helper()
	if got := d.suspend(now); got != want {
		d.t.Fatalf("Suspend(%d) = %d, want %d", now, got, want)
	}
}

// resume calls Resume.
func (d *duo) resume(now int) api.Errno {
	d.t.Helper()
	want := d.m.resume(now)
	got := d.s.Resume(now)
	if got != want {
		d.t.Fatalf("in the phase %s: Resume(%d) = %d, want %d", d.m.phase, now, got, want)
	}
	d.agree("Resume")
	return got
}

// resumes calls Resume, which has to return want.
func (d *duo) resumes(now int, want api.Errno) {
	d.t.Helper()
	if got := d.resume(now); got != want {
		d.t.Fatalf("Resume(%d) = %d, want %d", now, got, want)
	}
}

// cancel calls Cancel.
func (d *duo) cancel() api.Errno {
	d.t.Helper()
	phase := d.m.phase
	want := d.m.cancel()
	got := d.s.Cancel()
	if got != want {
		d.t.Fatalf("in the phase %s: Cancel = %d, want %d", phase, got, want)
	}
	d.agree("Cancel")
	return got
}

// cancels calls Cancel, which has to return want.
func (d *duo) cancels(want api.Errno) {
	d.t.Helper()
	if got := d.cancel(); got != want {
		d.t.Fatalf("Cancel = %d, want %d", got, want)
	}
}

// drain calls Next until there is nothing, at most so often as there may be units.
func (d *duo) drain(now int) {
	d.t.Helper()
	for range len(d.m.data)*2 + 5 {
		if _, ok := d.next(now); !ok {
			return
		}
	}
	d.t.Fatal("Next returns units without end")
}

// exhaust drains a sending end, and lets its timer end until nothing comes any more.
func (d *duo) exhaust() {
	d.t.Helper()
	d.drain(-1)
	for range d.m.config.Retries + 2 {
		end := d.m.timer + d.m.config.Timeout
		d.next(end - 1)
		d.next(end)
		d.drain(-1)
	}
}

// probe looks at clones of a sending end for everything that later calls can show of it.
func (d *duo) probe() {
	d.t.Helper()
	for _, act := range []func(e *duo){
		func(e *duo) {},
		func(e *duo) { e.resume(-1) },
		func(e *duo) { e.resume(-1); e.drain(-1); e.take(e.m.ackEOF(), -1) },
		func(e *duo) { e.resume(-1); e.take(e.m.nak(0, 0), -1) },
		func(e *duo) { e.take(e.m.finished(0), -1); e.resume(-1) },
		func(e *duo) { e.take(e.m.finished(7), -1); e.resume(-1) },
		func(e *duo) { e.cancel(); e.drain(-1); e.take(e.m.finished(0), -1) },
	} {
		e := d.clone()
		act(e)
		e.exhaust()
	}
	d.agree("calls of clones")
}

// timeIs checks the greatest time that was given to a sending end in the phase sending or waiting, whose Eof has not been
// acknowledged: a Nak and the Eof set the timer to it.
func (d *duo) timeIs(want int) {
	d.t.Helper()
	e := d.clone()
	if e.m.suspended {
		e.resumes(least, 0)
	}
	e.takes(e.m.nak(0, 0), greatest, 0)
	e.drain(-1)
	end := want + e.m.config.Timeout
	e.none(greatest, min(end-1, maxTime))
	if end > maxTime {
		return
	}
	e.sends(end, e.m.eof(0))
}

// situation is a way to bring a sending end somewhere. Its time is 100 then.
type situation struct {
	name string
	x    func() transaction
	lead func(d *duo)
}

// at returns a sending end that is in the situation.
func (c situation) at(t *testing.T) *duo {
	t.Helper()
	d := made(t, c.x())
	c.lead(d)
	return d
}

// first returns usual in class 1.
func first() transaction {
	x := usual()
	x.class = 1
	return x
}

// run calls Next several times at the same time, which is the sending end's time then, even if Next was not called.
func (d *duo) run(now, times int) {
	d.t.Helper()
	for range times {
		d.next(now)
	}
	d.takes(d.m.metadata(), now, 1)
}

// The numbers of calls of Next after which the metadata, the first piece, all pieces and the Eof of usual have been sent.
const (
	announced = 1
	begun     = 2
	whole     = 4
	ended     = 5
)

// sendingSituations are those in the phase sending, in class 2.
func sendingSituations() []situation {
	return []situation{
		{"new", usual, func(d *duo) { d.run(100, 0) }},
		{"announced", usual, func(d *duo) { d.run(100, announced) }},
		{"begun", usual, func(d *duo) { d.run(100, begun) }},
		{"whole", usual, func(d *duo) { d.run(100, whole) }},
		{"new, metadata requested", usual, func(d *duo) { d.take(d.m.nak(0, 0), 100) }},
		{"new, bytes requested", usual, func(d *duo) { d.take(d.m.nak(1, 7, 8, 9), 100) }},
		{"begun, metadata requested", usual, func(d *duo) { d.run(100, begun); d.take(d.m.nak(0, 0), 100) }},
		{"begun, bytes requested", usual, func(d *duo) { d.run(100, begun); d.take(d.m.nak(0, 1, 2, 9), 100) }},
		{"begun, both requested", usual, func(d *duo) { d.run(100, begun); d.take(d.m.nak(0, 0, 0, 2), 100) }},
		{"whole, both requested", usual, func(d *duo) { d.run(100, whole); d.take(d.m.nak(0, 0, 8, 10), 100) }},
		{"begun, suspended", usual, func(d *duo) { d.run(100, begun); d.suspend(100) }},
		{"begun, both requested, suspended", usual, func(d *duo) {
			d.run(100, begun)
			d.take(d.m.nak(0, 0, 0, 2), 100)
			d.suspend(100)
		}},
	}
}

// waitingSituations are those in the phase waiting.
func waitingSituations() []situation {
	return []situation{
		{"waiting", usual, func(d *duo) { d.run(100, ended) }},
		{"waiting, repeated", usual, func(d *duo) { d.run(70, ended); d.next(90); d.next(100) }},
		{"waiting, repeated to the end", usual, func(d *duo) { d.run(70, ended); d.next(80); d.next(90); d.next(100) }},
		{"waiting, to be repeated", usual, func(d *duo) { d.run(70, ended); d.take(d.m.metadata(), 100) }},
		{"waiting, metadata requested", usual, func(d *duo) { d.run(100, ended); d.take(d.m.nak(0, 0), 100) }},
		{"waiting, bytes requested", usual, func(d *duo) { d.run(70, ended); d.take(d.m.nak(0, 5, 6, 10), 100) }},
		{"waiting, both requested long ago", usual, func(d *duo) {
			d.run(70, ended)
			d.take(d.m.nak(0, 0, 9, 10), 70)
			d.take(d.m.metadata(), 100)
		}},
		{"waiting, suspended", usual, func(d *duo) { d.run(100, ended); d.suspend(100) }},
		{"waiting, suspended long ago", usual, func(d *duo) {
			d.run(70, ended)
			d.take(d.m.nak(0, 0, 9, 10), 70)
			d.suspend(70)
			d.next(100)
		}},
	}
}

// acknowledgedSituations are those in the phase waiting with an acknowledged Eof.
func acknowledgedSituations() []situation {
	return []situation{
		{"acknowledged", usual, func(d *duo) { d.run(100, ended); d.take(d.m.ackEOF(), 100) }},
		{"acknowledged, both requested", usual, func(d *duo) {
			d.run(70, ended)
			d.take(d.m.ackEOF(), 71)
			d.take(d.m.nak(0, 0, 3, 10), 100)
		}},
		{"acknowledged, suspended", usual, func(d *duo) {
			d.run(70, ended)
			d.suspend(71)
			d.take(d.m.ackEOF(), 100)
		}},
	}
}

// closingSituations are those in the phase closing.
func closingSituations() []situation {
	return []situation{
		{"closing", usual, func(d *duo) { d.run(100, ended); d.take(d.m.finished(0), 100) }},
		{"closing with a code", usual, func(d *duo) { d.run(100, begun); d.take(d.m.finished(7), 100) }},
		{"closing, suspended", usual, func(d *duo) { d.run(100, begun); d.suspend(100); d.take(d.m.finished(0), 100) }},
		{"closing with a code, suspended", usual, func(d *duo) {
			d.run(100, ended)
			d.take(d.m.nak(0, 0, 1, 3), 100)
			d.suspend(100)
			d.take(d.m.finished(5), 100)
		}},
	}
}

// lateSituations are those in the later phases.
func lateSituations() []situation {
	return []situation{
		{"cancelling", usual, func(d *duo) { d.run(100, begun); d.cancel() }},
		{"cancelling, AckDone due", usual, func(d *duo) { d.run(100, ended); d.cancel(); d.take(d.m.finished(0), 100) }},
		{"done", usual, func(d *duo) { d.run(100, ended); d.take(d.m.finished(0), 100); d.next(100) }},
		{"done, AckDone due", usual, func(d *duo) {
			d.run(100, begun)
			d.take(d.m.finished(0), 100)
			d.next(100)
			d.take(d.m.finished(9), 100)
		}},
		{"failed by time", usual, func(d *duo) { d.run(60, ended); d.next(70); d.next(80); d.next(90); d.next(100) }},
		{"failed by code", usual, func(d *duo) { d.run(100, ended); d.take(d.m.finished(7), 100); d.next(100) }},
		{"failed, AckDone due", usual, func(d *duo) {
			d.run(100, ended)
			d.take(d.m.finished(7), 100)
			d.next(100)
			d.take(d.m.finished(0), 100)
		}},
		{"cancelled", usual, func(d *duo) { d.run(100, ended); d.cancel(); d.next(100) }},
		{"cancelled, AckDone due", usual, func(d *duo) {
			d.run(100, begun)
			d.cancel()
			d.next(100)
			d.take(d.m.finished(17), 100)
		}},
	}
}

// firstClassSituations are those of class 1.
func firstClassSituations() []situation {
	return []situation{
		{"class 1, new", first, func(d *duo) { d.run(100, 0) }},
		{"class 1, begun", first, func(d *duo) { d.run(100, begun) }},
		{"class 1, whole", first, func(d *duo) { d.run(100, whole) }},
		{"class 1, suspended", first, func(d *duo) { d.run(100, begun); d.suspend(100) }},
		{"class 1, done", first, func(d *duo) { d.run(100, ended) }},
		{"class 1, cancelled", first, func(d *duo) { d.run(100, begun); d.cancel() }},
	}
}

// situations are all of them.
func situations() []situation {
	return slices.Concat(sendingSituations(), waitingSituations(), acknowledgedSituations(), closingSituations(), lateSituations(),
		firstClassSituations())
}

// each calls do in every situation.
func each(t *testing.T, list []situation, do func(t *testing.T, d *duo)) {
	for _, c := range list {
		t.Run(c.name, func(t *testing.T) { do(t, c.at(t)) })
	}
}

// The situations are what their names say.
func TestSituations(t *testing.T) {
	for phase, list := range map[string][]situation{
		"sending": sendingSituations(), "waiting": slices.Concat(waitingSituations(), acknowledgedSituations()), "closing": closingSituations(),
	} {
		each(t, list, func(t *testing.T, d *duo) {
			if d.m.phase != phase || d.m.now != 100 {
				t.Fatalf("the phase is %s, the time %d", d.m.phase, d.m.now)
			}
		})
	}
	for _, c := range slices.Concat(lateSituations(), firstClassSituations()) {
		d := c.at(t)
		found := false
		for _, word := range strings.Fields(strings.ReplaceAll(c.name, ",", "")) {
			found = found || word == d.m.phase || d.m.phase == "sending" && d.m.class == 1
		}
		if !found || d.m.suspended != strings.Contains(c.name, "suspended") || d.m.due != strings.Contains(c.name, "due") {
			t.Fatalf("%s: the phase is %s, suspended %t, AckDone due %t", c.name, d.m.phase, d.m.suspended, d.m.due)
		}
	}
}

// P27.2, P27.3: the chapter's first example.
func TestExampleFirstClass(t *testing.T) {
	one := api.FileID{Source: 1, Number: 5}
	s, err := source.New(one, 1, "x", []byte("ABCDE"), config(2, 10, 1))
	if s == nil || err != api.OK {
		t.Fatalf("New = %p, %d", s, err)
	}
	for i, want := range []api.Pdu{
		{Kind: 1, ID: one, Class: 1, Size: 5, Name: "x"},
		{Kind: 2, ID: one, Data: []byte("AB")},
		{Kind: 2, ID: one, Offset: 2, Data: []byte("CD")},
		{Kind: 2, ID: one, Offset: 4, Data: []byte("E")},
		{Kind: 3, ID: one, Class: 1, Size: 5, Sum: 0x86424344},
	} {
		if s.State() != active || s.Code() != 0 {
			t.Fatalf("State, Code = %d, %d", s.State(), s.Code())
		}
		if got, ok := s.Next(i); !ok || !same(got, want) {
			t.Fatalf("Next(%d) = %+v, %t, want %+v", i, got, ok, want)
		}
	}
	for _, now := range []int{0, 5, 1000, maxTime} {
		if got, ok := s.Next(now); ok || !same(got, api.Pdu{}) || s.State() != done || s.Code() != 0 {
			t.Fatalf("Next(%d) = %+v, %t, State, Code = %d, %d", now, got, ok, s.State(), s.Code())
		}
	}
}

// P27.2: the chapter's second example.
func TestExampleRetries(t *testing.T) {
	x := usual()
	x.data, x.config = []byte("ABCDE"), config(2, 10, 1)
	d := made(t, x)
	d.sends(3, x.metadata(), x.piece(0, 2), x.piece(2, 4), x.piece(4, 5), x.eof(0))
	d.is(waits, 0)
	d.none(12)
	d.sends(13, x.eof(0))
	d.is(waits, 0)
	d.none(22)
	d.is(waits, 0)
	d.none(23)
	d.is(failed, 10)
}

// P27.2: the chapter's third example, in the phases sending and waiting.
func TestExampleRequests(t *testing.T) {
	x := usual()
	x.data, x.config = []byte("ABCDE"), config(2, 10, 1)
	for sent := range 6 {
		d := made(t, x)
		d.sends(0, x.all()[:sent]...)
		d.takes(x.nak(0, 0, 1, 4), 0, 0)
		d.sends(0, x.metadata())
		for _, want := range []api.Pdu{
			{Kind: 2, ID: id, Offset: 1, Data: []byte("BC")},
			{Kind: 2, ID: id, Offset: 3, Data: []byte("D")},
		} {
			d.sends(0, want)
		}
		d.sends(0, x.all()[sent:]...)
		d.none(0, 9)
	}
}

// tries checks whether New has an error.
func tries(t *testing.T, x transaction, permitted bool) {
	t.Helper()
	if permitted {
		d := made(t, x)
		d.sends(0, x.metadata())
		return
	}
	for range 2 {
		s, err := source.New(x.id, x.class, x.name, x.data, x.config)
		if s != nil || err != api.ErrArg {
			t.Fatalf("New(%v, %d, %q, %d bytes, %v) = %p, %d, want nil, ErrArg", x.id, x.class, x.name, len(x.data), x.config, s, err)
		}
	}
}

// numbers returns numbers in and out of a range.
func numbers(low, high int) []int {
	return []int{
		least, least + 1, -1 << 40, -1 << 32, -1<<32 + low, -1<<16 + low, -256 + low, -high - 1, -high, low - 2, low - 1, low, low + 1,
		(low + high) / 2, high - 1, high, high + 1, high + 2, 2*high + 1, high + 256, 1<<16 + high, 1<<16 + low, 1<<32 + low, 1<<32 + high,
		1<<62 + low, greatest - 1, greatest,
	}
}

// P27.1: the source and the number of the transaction.
func TestNewID(t *testing.T) {
	for _, from := range numbers(0, 15) {
		for _, number := range numbers(0, 65535) {
			x := usual()
			x.id = api.FileID{Source: from, Number: number}
			tries(t, x, from >= 0 && from <= 15 && number >= 0 && number <= 65535)
		}
	}
}

// P27.1: the class.
func TestNewClass(t *testing.T) {
	for _, class := range append(numbers(1, 2), 0, 1, 2, 3) {
		x := usual()
		x.class = class
		tries(t, x, class == 1 || class == 2)
	}
}

// P27.1: a name has from 1 to 64 bytes.
func TestNewNameLengths(t *testing.T) {
	for _, size := range []int{0, 1, 2, 3, 63, 64, 65, 66, 127, 128, 255, 256, 257, 320, 65536, 65537} {
		for _, letter := range []string{"x", "!", "~"} {
			x := usual()
			x.name = strings.Repeat(letter, size)
			tries(t, x, size >= 1 && size <= 64)
		}
	}
}

// P27.1: each byte of a name is from 21 to 7E (hexadecimal), wherever it stands.
func TestNewNameBytes(t *testing.T) {
	for _, size := range []int{1, 2, 3, 64} {
		for place := range size {
			for n := range 256 {
				name := bytes.Repeat([]byte("a"), size)
				name[place] = byte(n)
				x := usual()
				x.name = string(name)
				tries(t, x, n >= 0x21 && n <= 0x7E)
			}
		}
	}
	for _, name := range []string{"a b", " ", "\n", "a\x00", "\u00e9", "\xff\xfe", "\u65e5", "a\t"} {
		x := usual()
		x.name = name
		tries(t, x, false)
	}
}

// P27.1: the contents have at most 65536 bytes; nil and empty ones are the same.
func TestNewData(t *testing.T) {
	for _, data := range [][]byte{
		nil, {}, make([]byte, 0, 10), {0}, contents(65535), contents(65536), contents(65537), contents(65536 + 512), make([]byte, 1<<20),
		make([]byte, 1<<17),
	} {
		for class := 1; class <= 2; class++ {
			x := usual()
			x.class, x.data = class, data
			tries(t, x, len(data) <= 65536)
		}
	}
}

// P27.1: the configuration.
func TestNewConfig(t *testing.T) {
	for _, chunk := range numbers(1, 512) {
		for _, timeout := range numbers(1, 1<<20) {
			x := usual()
			x.config = config(chunk, timeout, 3)
			tries(t, x, chunk >= 1 && chunk <= 512 && timeout >= 1 && timeout <= 1<<20)
		}
		for _, retries := range numbers(0, 255) {
			x := usual()
			x.class = 1
			x.config = config(chunk, 10, retries)
			tries(t, x, chunk >= 1 && chunk <= 512 && retries >= 0 && retries <= 255)
		}
	}
	for class := 1; class <= 2; class++ {
		x := usual()
		x.class = class
		x.config = api.FileConfig{}
		tries(t, x, false)
		x.config = config(1, 1, 0)
		tries(t, x, true)
		x.config = config(512, 1<<20, 255)
		tries(t, x, true)
	}
}

// P27.1: two arguments that are wrong, and all of them, are no better than one.
func TestNewWrong(t *testing.T) {
	spoilers := []func(x *transaction){
		func(x *transaction) { x.id.Source = 16 },
		func(x *transaction) { x.id.Number = -1 },
		func(x *transaction) { x.class = 0 },
		func(x *transaction) { x.name = "" },
		func(x *transaction) { x.data = make([]byte, 65537) },
		func(x *transaction) { x.config.Chunk = 513 },
		func(x *transaction) { x.config.Timeout = 0 },
		func(x *transaction) { x.config.Retries = 256 },
	}
	all := usual()
	for i, one := range spoilers {
		for _, other := range spoilers[i:] {
			x := usual()
			one(&x)
			other(&x)
			tries(t, x, false)
		}
		one(&all)
		tries(t, all, false)
	}
}

// P27.1, P27.2: an own sending end has nothing of another one.
func TestSeparate(t *testing.T) {
	x, y := usual(), usual()
	y.id, y.name, y.data, y.config = api.FileID{Source: 0, Number: 65535}, "other", contents(5), config(1, 20, 0)
	d, e := made(t, x), made(t, y)
	d.run(100, ended)
	d.takes(x.nak(0, 0, 0, 5), 100, 0)
	e.is(active, 0)
	e.sends(1, y.all()...)
	e.none(20)
	d.sends(100, x.metadata(), x.piece(0, 4))
	e.none(21)
	e.is(failed, 10)
	d.sends(100, x.piece(4, 5))
	d.is(waits, 0)
}

// P27.2, P27.3: files of all sizes about a few pieces, with pieces of all sizes about the limits, each to its end.
func TestFiles(t *testing.T) {
	for _, chunk := range []int{1, 2, 3, 4, 5, 7, 8, 255, 256, 257, 511, 512} {
		for _, size := range []int{0, 1, 2, 3, chunk - 1, chunk, chunk + 1, 2*chunk - 1, 2 * chunk, 2*chunk + 1, 5*chunk + chunk/2, 1000} {
			for class := 1; class <= 2; class++ {
				x := usual()
				x.class, x.data, x.config.Chunk = class, contents(size), chunk
				d := made(t, x)
				all := x.all()
				for now, want := range all {
					d.is(active, 0)
					d.sends(now, want)
				}
				last := len(all) - 1
				if class == 1 {
					d.is(done, 0)
					d.none(last, last+10, maxTime)
					d.is(done, 0)
					continue
				}
				d.is(waits, 0)
				d.none(last, last+9)
				d.sends(last+10, x.eof(0))
			}
		}
	}
}

// P27.3: without answers, the pieces are in ascending order, none is longer than Chunk or empty, and together they are the file.
func TestPieces(t *testing.T) {
	for _, c := range []struct{ size, chunk int }{{0, 1}, {1, 512}, {file, 1}, {file, 2}, {file, 511}, {file, 512}, {file - 1, 512}, {513, 512}} {
		for class := 1; class <= 2; class++ {
			x := usual()
			x.class, x.data, x.config.Chunk = class, contents(c.size), c.chunk
			s, err := source.New(x.id, x.class, x.name, x.data, x.config)
			if err != api.OK {
				t.Fatalf("New = %d", err)
			}
			var joined []byte
			var kinds []int
			for {
				p, ok := s.Next(7)
				if !ok {
					break
				}
				if p.Kind != fileData {
					kinds = append(kinds, p.Kind)
					continue
				}
				rest := c.size - len(joined)
				if len(kinds) != 1 || p.Offset != len(joined) || len(p.Data) != min(c.chunk, rest) {
					t.Fatalf("%d bytes at %d behind %d bytes", len(p.Data), p.Offset, len(joined))
				}
				joined = append(joined, p.Data...)
			}
			if !bytes.Equal(joined, x.data) || !slices.Equal(kinds, []int{metadata, eof}) {
				t.Fatalf("%d bytes, and the kinds %v", len(joined), kinds)
			}
		}
	}
}

// P27.2: the checksum of the Eof, for contents whose checksums are written out.
func TestSum(t *testing.T) {
	for _, c := range []struct {
		data []byte
		want uint32
	}{
		{nil, 0}, {[]byte{1}, 0x01000000}, {[]byte{0, 0, 0}, 0}, {[]byte("ABC"), 0x41424300}, {[]byte("ABCD"), 0x41424344},
		{[]byte("ABCDE"), 0x86424344}, {[]byte{0, 0, 0, 0, 0, 0, 0, 9}, 9}, {bytes.Repeat([]byte{0xFF}, 4), 0xFFFFFFFF},
		{bytes.Repeat([]byte{0xFF}, 8), 0xFFFFFFFE}, {bytes.Repeat([]byte{0x80, 0, 0, 0}, 2), 0}, {bytes.Repeat([]byte{1}, file), 0x40404000},
	} {
		for _, chunk := range []int{1, 3, 511, 512} {
			if len(c.data)/chunk > 1000 {
				continue
			}
			x := usual()
			x.data, x.config.Chunk = c.data, chunk
			if sum(c.data) != c.want {
				t.Fatalf("the sum of %d bytes is %08X, want %08X", len(c.data), sum(c.data), c.want)
			}
			d := made(t, x)
			d.sends(0, x.all()...)
			d.sends(10, x.eof(0))
			d.cancels(0)
			d.sends(10, x.eof(17))
		}
	}
}

// P27.2: rule 1 comes before all others: nothing is sent while the sending end is suspended, and nothing changes but the time.
func TestSuspendedFirst(t *testing.T) {
	for _, c := range situations() {
		d := c.at(t)
		if d.suspend(100) != 0 && !d.m.suspended {
			continue
		}
		code := d.m.code
		d.none(-1, 0, 100, 109, 110, 111, 1000)
		d.is(suspended, code)
		d.resumes(1000, 0)
		d.exhaust()
	}
}

// P27.2: rule 2: AckDone comes before the Eof of a cancellation and before the end, but not before rule 1.
func TestAckDoneFirst(t *testing.T) {
	x := usual()
	d := made(t, x)
	d.run(100, begun)
	d.cancels(0)
	d.takes(x.finished(0), 100, 0)
	d.is(waits, 17)
	d.sends(100, x.ackDone())
	d.is(waits, 17)
	d.sends(100, x.eof(17))
	d.is(cancelled, 17)
	d.none(100, 200)
	d.takes(x.finished(0), 200, 0)
	d.takes(x.finished(7), 200, 0)
	d.is(cancelled, 17)
	d.sends(200, x.ackDone())
	d.is(cancelled, 17)
	d.none(200, 300)

	for _, code := range []api.Errno{0, 7} {
		d := made(t, x)
		d.run(100, begun)
		d.takes(x.nak(0, 0, 1, 2), 100, 0)
		d.suspends(100, 0)
		d.takes(x.finished(code), 100, 0)
		d.is(suspended, code)
		d.none(100, 110, 200)
		d.is(suspended, code)
		d.suspends(200, 12)
		d.cancels(12)
		d.resumes(200, 0)
		d.is(waits, code)
		d.sends(200, x.ackDone())
		if code == 0 {
			d.is(done, 0)
		} else {
			d.is(failed, code)
		}
		d.none(200, 300)
	}
}

// P27.2: rule 3: the Eof of a cancellation, in class 2 only, and nothing behind it.
func TestCancellation(t *testing.T) {
	for _, c := range situations() {
		d := c.at(t)
		if d.cancel() != 0 {
			continue
		}
		if d.m.class == 1 {
			d.is(cancelled, 17)
			d.none(100, 110, maxTime)
			d.is(cancelled, 17)
			continue
		}
		d.is(waits, 17)
		for range 3 {
			d.cancels(12)
			d.suspends(100, 12)
			d.resumes(100, 12)
			d.takes(d.m.nak(0, 0, 0, 10), 100, 0)
			d.takes(d.m.ackEOF(), 100, 0)
			d.is(waits, 17)
		}
		d.sends(100, d.m.eof(17))
		d.is(cancelled, 17)
		d.none(100, 110, 200, maxTime)
		d.is(cancelled, 17)
	}
}

// P27.2: rule 4: nothing is sent behind the end, whatever is requested, but an AckDone for each Finished.
func TestEnded(t *testing.T) {
	for _, c := range slices.Concat(lateSituations(), closingSituations()) {
		d := c.at(t)
		d.resume(100)
		d.drain(100)
		state, code := d.m.state(), d.m.code
		if state < done {
			t.Fatalf("%s: the state is %d", c.name, state)
		}
		for range 2 {
			d.none(100, 110, 1000)
			for _, p := range []api.Pdu{d.m.nak(0, 0), d.m.nak(0, 10), d.m.nak(0, 0, 1, 2), d.m.ackEOF()} {
				d.takes(p, 1000, 0)
				d.none(1000, 1010)
			}
			d.takes(d.m.nak(0, 11), 1000, 4)
			for _, other := range []api.Errno{0, 17, 7} {
				d.takes(d.m.finished(other), 1000, 0)
				d.is(state, code)
				d.sends(1000, d.m.ackDone())
				d.none(1000, 1010)
				d.is(state, code)
			}
			d.suspends(2000, 12)
			d.resumes(2000, 12)
			d.cancels(12)
			d.is(state, code)
		}
	}
}

// P27.2: the rules 5 and 6 come before the rules 7 to 11: metadata first, then bytes, in the phases sending and waiting, also if
// the Eof is acknowledged or has to be repeated.
func TestRequestsFirst(t *testing.T) {
	for _, acknowledged := range []bool{false, true} {
		for sent := range ended + 1 {
			x := usual()
			d := made(t, x)
			d.run(0, sent)
			if sent == ended && acknowledged {
				d.takes(x.ackEOF(), 0, 0)
			}
			d.takes(x.nak(2, 3, 5, 10), 0, 0)
			d.takes(x.nak(0, 0), 0, 0)
			d.takes(x.nak(0, 1), 0, 0)
			d.sends(50, x.metadata(), x.piece(0, 1), x.piece(2, 3), x.piece(5, 9), x.piece(9, 10))
			d.sends(50, x.all()[sent:]...)
			if sent < ended {
				d.none(50, 59)
				d.sends(60, x.eof(0))
			} else if acknowledged {
				d.none(50, 60, 1000)
			} else {
				d.sends(50, x.eof(0))
			}
			d.is(waits, 0)
		}
	}
}

// P27.2: what is requested, and sent, says nothing of what is sent without a request: the metadata and all bytes are sent once
// more, in their turn.
func TestRequestsAside(t *testing.T) {
	x := usual()
	d := made(t, x)
	d.takes(x.nak(0, 0), 0, 0)
	d.sends(0, x.metadata(), x.metadata())
	d.takes(x.nak(0, 10), 0, 0)
	d.sends(0, x.piece(0, 4), x.piece(4, 8), x.piece(8, 10))
	d.sends(0, x.piece(0, 4))
	d.takes(x.nak(0, 0, 3, 9), 0, 0)
	d.sends(0, x.metadata(), x.piece(3, 7), x.piece(7, 9))
	d.is(active, 0)
	d.sends(0, x.piece(4, 8), x.piece(8, 10), x.eof(0))
	d.is(waits, 0)
}

// P27.2: requests that are asked for again while they are taken piece by piece, that meet and that overlap.
func TestRequestedPieces(t *testing.T) {
	x := usual()
	x.data = contents(30)
	for sent := range 2 {
		d := made(t, x)
		d.run(0, sent*10)
		take := func(ends ...int) { t.Helper(); d.takes(x.nak(ends...), 0, 0) }
		take(2, 5)
		take(5, 9)
		d.sends(0, x.piece(2, 6))
		take(3, 7)
		d.sends(0, x.piece(3, 7), x.piece(7, 9))
		take(20, 29)
		take(0, 3, 25, 30)
		d.sends(0, x.piece(0, 3), x.piece(20, 24))
		take(10, 12, 13, 15)
		d.sends(0, x.piece(10, 12), x.piece(13, 15), x.piece(24, 28))
		take(4, 5)
		take(6, 7)
		take(5, 6)
		d.sends(0, x.piece(4, 7), x.piece(28, 30))
		take(7, 11)
		take(7, 11)
		take(8, 10)
		take(0, 1, 11, 12)
		d.sends(0, x.piece(0, 1), x.piece(7, 11), x.piece(11, 12))
		if sent == 0 {
			d.sends(0, x.all()...)
		}
		d.none(0)
	}
}

// gapLists returns all lists of at most two gaps in a file of a few bytes, with and without the metadata.
func gapLists(size int) [][]int {
	lists := [][]int{{0, 0}}
	add := func(ends ...int) { lists = append(lists, ends, append([]int{0, 0}, ends...)) }
	for from := range size {
		for to := from + 1; to <= size; to++ {
			add(from, to)
			for next := to + 1; next < size; next++ {
				for end := next + 1; end <= size; end++ {
					add(from, to, next, end)
				}
			}
		}
	}
	return lists
}

// P27.2: every two Naks of at most two gaps each in a file of 5 bytes, with pieces of all sizes, and with some units between them.
func TestEveryTwoRequests(t *testing.T) {
	lists := gapLists(5)
	for chunk := 1; chunk <= 6; chunk++ {
		x := usual()
		x.data, x.config.Chunk = contents(5), chunk
		base := made(t, x)
		base.run(0, len(x.all()))
		for i, one := range lists {
			for j, other := range lists {
				d := base.clone()
				d.takes(x.nak(one...), 0, 0)
				for range (i + j) % 4 {
					d.next(0)
				}
				d.takes(x.nak(other...), 0, 0)
				d.drain(0)
			}
		}
	}
}

// P27.2: 16 gaps at once, which are the most that a unit may have, and all bytes of a file one by one.
func TestManyRequests(t *testing.T) {
	x := usual()
	x.data = contents(100)
	d := made(t, x)
	d.run(0, len(x.all()))
	var ends []int
	var units []api.Pdu
	for k := range 16 {
		ends = append(ends, 6*k, 6*k+3)
		units = append(units, x.piece(6*k, 6*k+3))
	}
	d.takes(x.nak(ends...), 0, 0)
	d.sends(0, units...)
	d.none(0)
	d.takes(x.nak(append([]int{0, 0}, ends[:30]...)...), 0, 0)
	d.sends(0, x.metadata())
	d.sends(0, units[:15]...)
	d.none(0)
	d.takes(x.nak(append(ends, 98, 99)...), 0, 1)
	d.none(0)
	for k := range 100 {
		d.takes(x.nak(99-k, 100-k), 0, 0)
	}
	for k := range 25 {
		d.sends(0, x.piece(4*k, 4*k+4))
	}
	d.none(0)
}

// P27.2: a file of the greatest size is requested whole, and in two parts.
func TestGreatRequest(t *testing.T) {
	x := usual()
	x.data, x.config.Chunk = contents(file), 512
	d := made(t, x)
	all := x.all()
	d.sends(0, all...)
	d.takes(x.nak(0, file), 0, 0)
	d.sends(0, all[1:129]...)
	d.none(0)
	d.takes(x.nak(0, file+1), 0, 1)
	d.none(0)
	d.takes(x.nak(0, 0, 256, 1000, file-1, file), 0, 0)
	d.sends(0, x.metadata(), x.piece(256, 768), x.piece(768, 1000), x.piece(file-1, file))
	d.none(0)
}

// P27.2: a piece is no longer than Chunk, whatever was requested.
func TestRequestsAndChunk(t *testing.T) {
	for _, chunk := range []int{1, 2, 3, 511, 512} {
		for _, size := range []int{chunk - 1, chunk, chunk + 1, 2*chunk - 1, 2 * chunk, 2*chunk + 1, 3*chunk + 1} {
			if size == 0 {
				continue
			}
			x := usual()
			x.data, x.config.Chunk = contents(2000), chunk
			d := made(t, x)
			d.run(0, len(x.all()))
			d.takes(x.nak(0, 0, 7, 7+size), 0, 0)
			d.sends(0, x.metadata())
			for from := 7; from < 7+size; from += chunk {
				d.sends(0, x.piece(from, min(from+chunk, 7+size)))
			}
			d.none(0)
		}
	}
}

// P27.2: rule 10: the Eof is repeated when the timer ends, as often as Retries says, and then the transaction fails; at the end of
// the timer minus 1, exactly there and beyond.
func TestRepetitions(t *testing.T) {
	for _, timeout := range []int{1, 2, 10, 1 << 20} {
		for _, retries := range []int{0, 1, 2, 5, 254, 255} {
			for _, late := range []int{0, 1, 3} {
				x := usual()
				x.config = config(4, timeout, retries)
				d := made(t, x)
				now := 500
				d.sends(now, x.all()...)
				for range retries {
					d.none(now, now+timeout-1)
					now += timeout + late
					d.sends(now, x.eof(0))
					d.is(waits, 0)
				}
				d.none(now, now+timeout-1)
				d.is(waits, 0)
				d.none(now + timeout + late)
				d.is(failed, 10)
				d.none(now+timeout+late, now+3*timeout+late, maxTime)
				d.is(failed, 10)
			}
		}
	}
}

// P27.2: rule 9: the timer begins with the Eof, not with what is sent before, and not before that.
func TestTimerBeginsWithEof(t *testing.T) {
	x := usual()
	for _, start := range []int{0, 1, 500, 1 << 30, maxTime - 20} {
		d := made(t, x)
		d.sends(0, x.all()[:whole]...)
		d.sends(start, x.eof(0))
		d.none(start, start+9)
		d.sends(start+10, x.eof(0))
		d.none(start+10, start+19)
		d.sends(start+20, x.eof(0))
	}
	// No time is too late for the units before it.
	d := made(t, x)
	for i, p := range x.all() {
		d.sends(100*i, p)
	}
	d.none(409)
	d.sends(410, x.eof(0))
}

// P27.2: rule 10: an Eof that has been acknowledged is not repeated, whenever that was, and nothing fails.
func TestAcknowledged(t *testing.T) {
	for _, retries := range []int{0, 1, 3} {
		for repeated := range retries + 1 {
			x := usual()
			x.config.Retries = retries
			d := made(t, x)
			d.sends(0, x.all()...)
			for k := range repeated {
				d.sends(10*k+10, x.eof(0))
			}
			for range 2 {
				d.takes(x.ackEOF(), 10*repeated+10, 0)
				d.none(-1, 10*repeated+10, 10*repeated+11, 10*repeated+1000)
				d.is(waits, 0)
			}
			// Neither a Nak nor Suspend and Resume make it unacknowledged.
			now := 10*repeated + 1000
			d.takes(x.nak(0, 0, 1, 3), now, 0)
			d.sends(now, x.metadata(), x.piece(1, 3))
			d.none(now+10, now+100)
			d.suspends(now+100, 0)
			d.none(now + 110)
			d.resumes(now+110, 0)
			d.none(now+120, now+1000, maxTime)
			d.is(waits, 0)
			d.takes(x.finished(0), maxTime, 0)
			d.sends(maxTime, x.ackDone())
			d.is(done, 0)
		}
	}
}

// wrong returns units of the transaction that are not valid, or not for a sending end, with a word for each.
func wrong(x transaction) map[string]api.Pdu {
	units := map[string]api.Pdu{
		"Metadata": x.metadata(), "Eof": x.eof(0), "Eof of a cancellation": x.eof(17), "AckDone": x.ackDone(),
		"FileData": {Kind: fileData, ID: x.id, Data: []byte{1}}, "no gaps": x.nak(), "a code too great": x.finished(18),
		"a code too small": x.finished(-1), "an empty gap": x.nak(3, 3), "a gap turned round": x.nak(4, 3), "a negative gap": x.nak(-1, 3),
		"no metadata": x.nak(0, 1, 0, 0), "metadata twice": x.nak(0, 0, 0, 0), "gaps that meet": x.nak(0, 2, 2, 4),
		"gaps that overlap": x.nak(0, 3, 2, 5), "gaps out of order": x.nak(5, 6, 1, 2), "a gap too great": x.nak(0, file+1),
		"a much too great gap": x.nak(0, greatest), "17 gaps": {Kind: nak, ID: x.id},
	}
	many := units["17 gaps"]
	for k := range 17 {
		many.Gaps = append(many.Gaps, api.Range{From: 2 * k, To: 2*k + 1})
	}
	units["17 gaps"] = many
	for _, kind := range []int{least, -1, 0, 8, 9, 256 + nak, 1<<32 + finished, greatest} {
		units[fmt.Sprint("kind ", kind)] = api.Pdu{Kind: kind, ID: x.id}
	}
	for kind, good := range map[string]api.Pdu{"Nak": x.nak(0, 1), "Finished": x.finished(0), "AckEof": x.ackEOF()} {
		spoilers := map[string]func(p *api.Pdu){
			"Class": func(p *api.Pdu) { p.Class = 2 }, "Name": func(p *api.Pdu) { p.Name = "x" }, "Size": func(p *api.Pdu) { p.Size = 1 },
			"Offset": func(p *api.Pdu) { p.Offset = 1 }, "Data": func(p *api.Pdu) { p.Data = []byte{0} },
			"Sum": func(p *api.Pdu) { p.Sum = 1 }, "Code": func(p *api.Pdu) { p.Code = 18 },
			"Source": func(p *api.Pdu) { p.ID.Source = 16 }, "Number": func(p *api.Pdu) { p.ID.Number = -1 },
			"another source": func(p *api.Pdu) { p.ID.Source ^= 1 }, "another number": func(p *api.Pdu) { p.ID.Number ^= 1 },
			"no ID":       func(p *api.Pdu) { p.ID = api.FileID{} },
			"ID reversed": func(p *api.Pdu) { p.ID = api.FileID{Source: p.ID.Number % 16, Number: p.ID.Source} },
		}
		if kind != "Nak" {
			spoilers["Gaps"] = func(p *api.Pdu) { p.Gaps = []api.Range{{From: 0, To: 1}} }
		}
		for word, spoil := range spoilers {
			p := good
			spoil(&p)
			units[kind+" with "+word] = p
		}
	}
	return units
}

// P27.2: Take of units that are not valid, of another transaction or of the wrong direction: ErrArg in every situation, class 1
// among them, and nothing changes.
func TestTakeWrong(t *testing.T) {
	for _, c := range situations() {
		base := c.at(t)
		d := base.clone()
		units := wrong(d.m.transaction)
		for word, p := range units {
			if got := d.take(p, 100); got != 1 {
				t.Fatalf("%s, %s: Take = %d", c.name, word, got)
			}
		}
		d.probe()
		d.exhaust()
		for _, word := range []string{"metadata twice", "a code too great", "Nak with another number", "AckEof with another source"} {
			e := base.clone()
			e.takes(units[word], 100, 1)
			e.exhaust()
		}
	}
}

// P27.2: Take in class 1: ErrState for every unit that is not an error otherwise, in each phase, and nothing changes.
func TestTakeFirstClass(t *testing.T) {
	for _, c := range firstClassSituations() {
		d := c.at(t)
		for _, p := range []api.Pdu{
			d.m.ackEOF(), d.m.nak(0, 0), d.m.nak(0, 10), d.m.nak(0, 0, 1, 2), d.m.nak(0, 11), d.m.nak(0, file), d.m.finished(0),
			d.m.finished(7),
		} {
			d.takes(p, 100, 12)
			d.clone().exhaust()
		}
		d.takes(d.m.nak(0, file+1), 100, 1)
		d.takes(d.m.metadata(), 100, 1)
		d.resume(100)
		d.exhaust()
		if d.m.state() != done && d.m.state() != cancelled {
			t.Fatalf("%s: the state is %d at last", c.name, d.m.state())
		}
	}
}

// P27.2: AckEof in each phase: an error in the phase sending only, suspended or not, and it has an effect in the phase waiting only.
func TestTakeAckEOF(t *testing.T) {
	for _, c := range situations() {
		d := c.at(t)
		if d.m.class == 1 {
			continue
		}
		want := api.OK
		if d.m.phase == "sending" {
			want = 12
		}
		d.takes(d.m.ackEOF(), 100, want)
		d.takes(d.m.ackEOF(), 100, want)
		d.probe()
		if d.m.phase == "sending" {
			// It has not been acknowledged in advance.
			d.resume(100)
			d.drain(100)
			d.sends(110, d.m.eof(0))
		} else if d.m.phase == "waiting" {
			d.resume(100)
			d.drain(100)
			d.none(110, 1000, maxTime)
			d.is(waits, 0)
		}
	}
}

// P27.2: a Nak with a gap behind the size of the file is an error in each phase, wherever the gap stands, and nothing changes; the
// size itself is no error.
func TestTakeGapTooFar(t *testing.T) {
	for _, c := range situations() {
		d := c.at(t)
		if d.m.class == 1 {
			continue
		}
		before := d.clone()
		for _, ends := range [][]int{
			{0, 11}, {10, 11}, {9, 11}, {0, 0, 0, 11}, {0, 0, 1, 2, 4, 11}, {0, 1, 2, 3, 10, 12}, {11, 12}, {0, file}, {1, 2, 3, 4, 20, 30, 40, 41},
			{file - 1, file},
		} {
			d.takes(d.m.nak(ends...), 100, 4)
		}
		d.probe()
		before.exhaust()
		d.takes(d.m.nak(0, 10), 100, 0)
		d.takes(d.m.nak(0, 0, 9, 10), 100, 0)
		d.probe()
		d.takes(d.m.nak(0, 0, 9, 11), 100, 4)
		d.exhaust()
	}
	for _, size := range []int{0, 1, 2, 255, 256, 511, 512, 513, file - 1, file} {
		x := usual()
		x.data, x.config.Chunk = contents(size), 512
		d := made(t, x)
		d.run(0, len(x.all()))
		for _, to := range []int{size + 1, size + 2, size + 256, file, file + 1, 1 << 32} {
			want := api.ErrForm
			if to > file {
				want = 1
			} else if to == size {
				want = 0
			}
			e := d.clone()
			e.takes(x.nak(to-1, to), 0, want)
			e.takes(x.nak(0, 0), 0, 0)
			e.drain(0)
		}
		if size > 0 {
			d.takes(x.nak(size-1, size), 0, 0)
			d.sends(0, x.piece(size-1, size))
		}
		d.none(0)
	}
}

// P27.2: a Nak with the metadata only, with gaps only, with both, and with the same again, in the phases sending and waiting.
func TestTakeNak(t *testing.T) {
	x := usual()
	for sent := range ended + 1 {
		base := made(t, x)
		base.run(0, sent)
		for _, c := range []struct {
			ends  []int
			units []api.Pdu
		}{
			{[]int{0, 0}, []api.Pdu{x.metadata()}},
			{[]int{0, 1}, []api.Pdu{x.piece(0, 1)}},
			{[]int{9, 10}, []api.Pdu{x.piece(9, 10)}},
			{[]int{1, 3, 4, 9}, []api.Pdu{x.piece(1, 3), x.piece(4, 8), x.piece(8, 9)}},
			{[]int{0, 0, 0, 10}, []api.Pdu{x.metadata(), x.piece(0, 4), x.piece(4, 8), x.piece(8, 10)}},
			{[]int{0, 0, 3, 7}, []api.Pdu{x.metadata(), x.piece(3, 7)}},
		} {
			for _, again := range []int{1, 2, 3} {
				d := base.clone()
				for range again {
					d.takes(x.nak(c.ends...), 0, 0)
				}
				d.sends(0, c.units...)
				d.sends(0, x.all()[sent:]...)
				d.none(0)
				// Once they are sent, they are not requested any more; but they may be once more.
				d.takes(x.nak(c.ends...), 5, 0)
				d.sends(5, c.units...)
				d.none(5, 14)
				d.sends(15, x.eof(0))
			}
		}
	}
}

// P27.2: a Nak starts the timer and the repetitions anew, in the phase waiting, also if the timer has ended, and Retries is 0.
func TestNakTimer(t *testing.T) {
	for _, retries := range []int{0, 1, 3} {
		for repeated := range retries + 1 {
			x := usual()
			x.config.Retries = retries
			d := made(t, x)
			d.sends(0, x.all()...)
			now := 0
			for range repeated {
				now += 10
				d.sends(now, x.eof(0))
			}
			now += 13
			d.takes(x.nak(0, 0), now, 0)
			d.sends(now, x.metadata())
			d.none(now, now+9)
			for range retries {
				now += 10
				d.sends(now, x.eof(0))
				d.none(now + 9)
			}
			d.is(waits, 0)
			d.none(now + 10)
			d.is(failed, 10)
		}
	}
	// What a Nak does while units are sent ends with the Eof.
	x := usual()
	d := made(t, x)
	d.run(0, begun)
	d.takes(x.nak(0, 0), 3, 0)
	d.sends(3, x.metadata())
	d.sends(50, x.all()[begun:]...)
	d.none(50, 59)
	d.sends(60, x.eof(0))
}

// P27.2: requests are sent at once, whatever the timer says, and do not start it anew.
func TestRequestsAndTimer(t *testing.T) {
	x := usual()
	x.config.Retries = 1
	d := made(t, x)
	d.sends(0, x.all()...)
	d.takes(x.nak(0, 10), 5, 0)
	d.sends(5, x.piece(0, 4))
	d.sends(14, x.piece(4, 8))
	d.sends(20, x.piece(8, 10))
	d.sends(20, x.eof(0))
	d.none(29)
	d.is(waits, 0)
	d.takes(x.nak(0, 10), 29, 0)
	d.sends(100, x.piece(0, 4), x.piece(4, 8), x.piece(8, 10), x.eof(0))
	d.none(109)
	d.none(110)
	d.is(failed, 10)
}

// P27.2: Finished in each phase, suspended or not, with all codes, and twice.
func TestTakeFinished(t *testing.T) {
	for _, c := range situations() {
		for code := range api.Errno(18) {
			d := c.at(t)
			if d.m.class == 1 {
				continue
			}
			phase, before, paused := d.m.phase, d.m.code, d.m.suspended
			d.takes(d.m.finished(code), 100, 0)
			if phase == "sending" || phase == "waiting" {
				before = code
			}
			d.takes(d.m.finished((code+5)%18), 100, 0)
			if d.m.code != before || d.m.suspended != paused {
				t.Fatalf("%s: the code is %d, suspended %t", c.name, d.m.code, d.m.suspended)
			}
			if paused {
				d.none(100, 200)
				d.resumes(200, 0)
			}
			d.sends(200, d.m.ackDone())
			if phase == "cancelling" {
				d.sends(200, d.m.eof(17))
			}
			d.none(200, 300)
			if code == 0 && before == 0 {
				d.is(done, 0)
			} else if phase == "sending" || phase == "waiting" {
				d.is(failed, code)
			}
		}
	}
}

// P27.2: only the code OK leads to Done, also if the code is one that a sending end has for other reasons.
func TestFinishedCodes(t *testing.T) {
	for code := range api.Errno(18) {
		for sent := range ended + 1 {
			x := usual()
			d := made(t, x)
			d.run(0, sent)
			d.takes(x.nak(0, 0, 2, 5), 0, 0)
			d.takes(x.finished(code), 0, 0)
			d.is(waits, code)
			d.suspends(0, 12)
			d.resumes(0, 12)
			d.cancels(12)
			d.takes(x.nak(0, 0, 2, 5), 0, 0)
			d.takes(x.ackEOF(), 0, 0)
			d.is(waits, code)
			d.sends(100, x.ackDone())
			want := failed
			if code == 0 {
				want = done
			}
			d.is(want, code)
			d.none(100, 200)
			d.is(want, code)
		}
	}
}

// P27.2: Suspend, Resume and Cancel in each phase, suspended and not, in both classes: their errors, and that an error changes
// nothing but the time.
func TestControl(t *testing.T) {
	for _, c := range situations() {
		d := c.at(t)
		live, paused := d.m.phase == "sending" || d.m.phase == "waiting", d.m.suspended
		e := d.clone()
		if live && !paused {
			e.suspends(100, 0)
			e.is(suspended, 0)
		}
		for range 2 {
			e.suspends(100, 12)
		}
		e.probe()
		e = d.clone()
		if paused {
			e.resumes(100, 0)
		}
		for range 2 {
			e.resumes(100, 12)
		}
		if e.m.state() == suspended {
			t.Fatalf("%s: still suspended", c.name)
		}
		e.probe()
		e = d.clone()
		if live {
			e.cancels(0)
			if e.m.code != 17 || e.m.state() == suspended {
				t.Fatalf("%s: cancelled with the state %d and the code %d", c.name, e.m.state(), e.m.code)
			}
		}
		for range 2 {
			e.cancels(12)
		}
		e.probe()
		d.probe()
	}
}

// P27.2: Resume sets the timer, and neither the repetitions nor what is requested or sent; Suspend sets none of them.
func TestResume(t *testing.T) {
	x := usual()
	x.config.Retries = 2
	d := made(t, x)
	d.sends(0, x.all()...)
	d.sends(10, x.eof(0))
	d.suspends(15, 0)
	d.none(20, 25, 1000)
	d.resumes(1003, 0)
	d.none(1003, 1012)
	d.sends(1013, x.eof(0))
	d.suspends(1014, 0)
	d.resumes(1015, 0)
	d.none(1024)
	d.is(waits, 0)
	d.none(1025)
	d.is(failed, 10)

	// In the phase sending, everything goes on where it was.
	d = made(t, x)
	for i, p := range x.all() {
		d.suspends(i, 0)
		d.takes(x.nak(0, 0, 3, 8), i, 0)
		d.none(i, i+10)
		d.resumes(i, 0)
		d.sends(i, x.metadata(), x.piece(3, 7), x.piece(7, 8))
		d.sends(i+10, p)
	}
	d.none(23)
	d.sends(24, x.eof(0))

	// In class 1 too.
	x = first()
	d = made(t, x)
	for i, p := range x.all() {
		d.suspends(i, 0)
		d.is(suspended, 0)
		d.none(i, i+100)
		d.resumes(i, 0)
		d.is(active, 0)
		d.sends(i, p)
	}
	d.is(done, 0)
	d.suspends(0, 12)
}

// P27.2: Cancel of a sending end that is suspended sends its Eof at once, and it may not be resumed.
func TestCancelSuspended(t *testing.T) {
	for sent := range ended + 1 {
		x := usual()
		d := made(t, x)
		d.run(0, sent)
		d.takes(x.nak(0, 0, 2, 5), 0, 0)
		d.suspends(0, 0)
		d.cancels(0)
		d.is(waits, 17)
		d.resumes(0, 12)
		d.sends(0, x.eof(17))
		d.is(cancelled, 17)
		d.none(0, 100)
	}
	for sent := range ended {
		x := first()
		d := made(t, x)
		d.run(0, sent)
		d.suspends(0, 0)
		d.cancels(0)
		d.is(cancelled, 17)
		d.none(0, 100)
		d.resumes(0, 12)
	}
}

// bound is a time that is given, and the time that the sending end has then if it was 100.
type bound struct{ given, want int }

// given are times in and out of their range.
var given = []bound{
	{least, 100}, {least + 1, 100}, {-1 << 40, 100}, {-101, 100}, {-1, 100}, {0, 100}, {50, 100}, {99, 100}, {100, 100}, {101, 101},
	{1 << 32, 1 << 32}, {maxTime - 1, maxTime - 1}, {maxTime, maxTime}, {maxTime + 1, 100}, {maxTime + 101, 100}, {1 << 41, 100},
	{1 << 62, 100}, {greatest - 1, 100}, {greatest, 100},
}

// P27.2, the rule Time: the time that each call uses and leaves, also those with an error.
func TestTime(t *testing.T) {
	x := usual()
	for _, c := range given {
		for i, act := range []func(d *duo){
			func(d *duo) { d.next(c.given) },
			func(d *duo) { d.takes(x.nak(0, 0), c.given, 0) },
			func(d *duo) { d.takes(x.nak(2, 11), c.given, 4) },
			func(d *duo) { d.takes(x.metadata(), c.given, 1) },
			func(d *duo) { d.takes(api.Pdu{}, c.given, 1) },
			func(d *duo) { p := x.ackEOF(); p.ID.Number++; d.takes(p, c.given, 1) },
			func(d *duo) { d.suspend(c.given) },
			func(d *duo) { d.suspend(100); d.suspends(c.given, 12) },
			func(d *duo) { d.suspend(100); d.none(c.given) },
			func(d *duo) { d.suspend(100); d.resumes(c.given, 0) },
			func(d *duo) { d.resume(100); d.resumes(c.given, 12) },
			func(d *duo) {
				if d.m.phase == "sending" {
					d.takes(x.ackEOF(), c.given, 12)
				} else {
					d.next(c.given)
				}
			},
		} {
			for _, lead := range slices.Concat(sendingSituations(), waitingSituations()) {
				d := lead.at(t)
				act(d)
				if d.m.phase == "failed" {
					continue
				}
				if d.m.now != c.want {
					t.Fatalf("%s, call %d, %d: the time is %d, want %d", lead.name, i, c.given, d.m.now, c.want)
				}
				d.timeIs(c.want)
			}
		}
	}
}

// P27.2, the rule Time: the timer that each time leads to.
func TestTimeOfTimer(t *testing.T) {
	x := usual()
	for _, c := range given {
		ends := func(d *duo) {
			t.Helper()
			d.none(c.given, least, -1, 0, 100, greatest, maxTime+1, min(c.want+9, maxTime))
			if c.want+10 <= maxTime {
				d.sends(c.want+10, x.eof(0))
			}
			d.is(waits, 0)
		}
		base := made(t, x)
		base.run(100, whole)
		d := base.clone()
		d.sends(c.given, x.eof(0))
		ends(d)
		base.sends(least, x.eof(0))
		d = base.clone()
		d.takes(x.nak(0, 0), c.given, 0)
		d.sends(-1, x.metadata())
		ends(d)
		d = base.clone()
		d.suspends(-1, 0)
		d.resumes(c.given, 0)
		ends(d)
		d = base.clone()
		if _, ok := d.next(c.given); ok {
			// The Eof is repeated, if the time is late enough.
			ends(d)
		}
	}
}

// P27.2: timers that would end behind the greatest time never end.
func TestTimerBehindTime(t *testing.T) {
	for _, timeout := range []int{1, 2, 10, 1 << 20} {
		x := usual()
		x.config = config(512, timeout, 0)
		d := made(t, x)
		d.sends(maxTime, x.all()...)
		d.none(maxTime, maxTime+1, maxTime+timeout, greatest)
		d.is(waits, 0)
		d = made(t, x)
		d.sends(maxTime-timeout+1, x.all()...)
		d.none(maxTime, maxTime+1, maxTime+timeout, greatest)
		d.is(waits, 0)
		d = made(t, x)
		d.sends(maxTime-timeout, x.all()...)
		d.none(maxTime-1, maxTime+1, greatest)
		d.is(waits, 0)
		d.none(maxTime)
		d.is(failed, 10)
	}
}

// P27.2, the rule Time: the time of a unit that is refused may end the timer.
func TestErrorTimeEndsTimer(t *testing.T) {
	x := usual()
	for _, act := range []func(d *duo, now int){
		func(d *duo, now int) { d.takes(x.metadata(), now, 1) },
		func(d *duo, now int) { d.takes(x.nak(0, 11), now, 4) },
		func(d *duo, now int) { d.resumes(now, 12) },
	} {
		d := made(t, x)
		d.sends(100, x.all()...)
		act(d, 109)
		d.none(0)
		act(d, 110)
		d.sends(0, x.eof(0))
		d.none(119)
	}
}

// The rule Memory: the data are not retained, and the units share no memory with them, with each other or with a clone.
func TestMemory(t *testing.T) {
	x := usual()
	backing := contents(30)
	s, err := source.New(x.id, x.class, x.name, backing[5:15], x.config)
	if err != api.OK || !bytes.Equal(backing, contents(30)) {
		t.Fatalf("New = %d, and the data % X", err, backing)
	}
	x.data = contents(30)[5:15]
	twin := s.Clone()
	spoil(backing)
	spoiled := bytes.Clone(backing)
	check := func(s *source.Source, now int, units ...api.Pdu) {
		t.Helper()
		var got []api.Pdu
		for _, want := range units {
			p, ok := s.Next(now)
			if !ok || !same(p, want) {
				t.Fatalf("Next(%d) = %+v, %t, want %+v", now, p, ok, want)
			}
			got = append(got, p)
		}
		for i := range got {
			spoil(got[i].Data)
			for j, want := range units[i+1:] {
				if !same(got[i+1+j], want) {
					t.Fatalf("the unit %d shares memory with the unit %d", i+1+j, i)
				}
			}
		}
	}
	check(s, 0, x.all()...)
	check(twin, 0, x.all()...)
	late := s.Clone()
	for _, one := range []*source.Source{s, twin, late} {
		for range 2 {
			for _, ends := range [][]int{{0, 0, 0, 10}, {0, 4}} {
				if got := one.Take(x.nak(ends...), 0); got != api.OK {
					t.Fatalf("Take = %d", got)
				}
			}
			check(one, 0, x.metadata(), x.piece(0, 4), x.piece(4, 8), x.piece(8, 10))
		}
		check(one, 10, x.eof(0))
	}
	if !bytes.Equal(backing, spoiled) {
		t.Fatalf("the data were changed to % X", backing)
	}
}

// The rule Memory: the gaps of a Nak are neither retained nor changed.
func TestMemoryGaps(t *testing.T) {
	x := usual()
	s, _ := source.New(x.id, x.class, x.name, x.data, x.config)
	for range ended {
		s.Next(0)
	}
	backing := []api.Range{{From: 9, To: 10}, {From: 0, To: 0}, {From: 1, To: 3}, {From: 5, To: 6}, {From: 8, To: 9}}
	before := slices.Clone(backing)
	for range 2 {
		for _, part := range [][]api.Range{backing[1:4], backing[2:3], backing[3:4]} {
			if got := s.Take(api.Pdu{Kind: nak, ID: id, Gaps: part}, 0); got != api.OK || !slices.Equal(backing, before) {
				t.Fatalf("Take = %d, and the gaps %v", got, backing)
			}
		}
		for i := range backing {
			backing[i] = api.Range{From: 0, To: 10}
		}
		for _, want := range []api.Pdu{x.metadata(), x.piece(1, 3), x.piece(5, 6)} {
			if got, ok := s.Next(0); !ok || !same(got, want) {
				t.Fatalf("Next = %+v, %t, want %+v", got, ok, want)
			}
		}
		if got, ok := s.Next(0); ok {
			t.Fatalf("Next = %+v", got)
		}
		copy(backing, before)
	}
}

// call is a call that depends on nothing but the sending end.
type call struct {
	name string
	of   func(d *duo)
}

// calls returns calls of all methods, with arguments that are right and wrong.
func calls() []call {
	list := []call{
		{"Next", func(d *duo) { d.next(d.m.now) }},
		{"Next later", func(d *duo) { d.next(d.m.now + 1) }},
		{"Next before the end of the timer", func(d *duo) { d.next(d.m.timer + d.m.config.Timeout - 1) }},
		{"Next at the end of the timer", func(d *duo) { d.next(d.m.timer + d.m.config.Timeout) }},
		{"Suspend", func(d *duo) { d.suspend(d.m.now + 1) }},
		{"Resume", func(d *duo) { d.resume(d.m.now + 1) }},
		{"Cancel", func(d *duo) { d.cancel() }},
		{"Finished", func(d *duo) { d.take(d.m.finished(0), d.m.now) }},
		{"Finished with a code", func(d *duo) { d.take(d.m.finished(7), d.m.now+2) }},
		{"AckEof", func(d *duo) { d.take(d.m.ackEOF(), d.m.now) }},
		{"a unit of another transaction", func(d *duo) {
			p := d.m.finished(0)
			p.ID.Number++
			d.take(p, d.m.now+3)
		}},
		{"a unit of the sending end", func(d *duo) { d.take(d.m.ackDone(), d.m.now+4) }},
	}
	for _, ends := range [][]int{{0, 0}, {0, 6}, {5, 10}, {0, 0, 1, 2, 9, 10}, {0, 0, 9, 11}} {
		list = append(list, call{fmt.Sprint("Nak ", ends), func(d *duo) { d.take(d.m.nak(ends...), d.m.now+1) }})
	}
	return list
}

// P27.2: every sequence of three calls in every situation, each from its beginning; and after each of two calls, everything that
// can be seen later.
func TestEverySequence(t *testing.T) {
	all := calls()
	for _, c := range situations() {
		for _, one := range all {
			for _, two := range all {
				for _, three := range all {
					d := c.at(t)
					one.of(d)
					two.of(d)
					three.of(d)
					d.drain(-1)
				}
				d := c.at(t)
				one.of(d)
				two.of(d)
				d.probe()
			}
		}
	}
}

// P27.5: every two calls of a clone in every situation, which the original does not see, and of the original, which the clone does
// not see.
func TestEverySequenceOfClones(t *testing.T) {
	all := calls()
	for _, c := range situations() {
		d := c.at(t)
		for _, one := range all {
			e := d.clone()
			one.of(e)
			d.agree("a call of a clone")
			for _, two := range all {
				g := e.clone()
				two.of(g)
				e.agree("a call of a clone")
				h := e.clone()
				two.of(h)
				g.exhaust()
				h.exhaust()
			}
			e.probe()
		}
		d.probe()
		for _, one := range all {
			d := c.at(t)
			e := d.clone()
			one.of(d)
			e.probe()
			d.probe()
			e.exhaust()
			d.exhaust()
		}
	}
}

// P27.5: a clone and its original go on in turns, each with requests of its own.
func TestCloneRequests(t *testing.T) {
	x := usual()
	x.data = contents(40)
	for before := range 6 {
		d := made(t, x)
		d.run(0, len(x.all()))
		for k := range before {
			d.takes(x.nak(6*k, 6*k+2), 0, 0)
		}
		e := d.clone()
		for k := range 6 {
			d.takes(x.nak(6*k+2, 6*k+3), 0, 0)
			e.takes(x.nak(6*k+4, 6*k+5), 0, 0)
		}
		d.next(0)
		for k := range 4 {
			e.takes(x.nak(k, k+30), 0, 0)
			d.next(0)
			e.next(0)
			e.next(0)
		}
		g := e.clone()
		e.drain(0)
		d.drain(0)
		g.drain(0)
	}
}

// P27.5, the rule Nil objects: nil and zero values return ErrNil and zero values, and stay as they are.
func TestNil(t *testing.T) {
	x := usual()
	for _, s := range []*source.Source{nil, {}, new(source.Source)} {
		for range 2 {
			for _, now := range []int{least, -1, 0, 1, 100, maxTime, maxTime + 1, greatest} {
				if p, ok := s.Next(now); ok || !same(p, api.Pdu{}) {
					t.Fatalf("Next(%d) = %+v, %t", now, p, ok)
				}
				for _, p := range []api.Pdu{{}, x.ackEOF(), x.finished(0), x.nak(0, 0), x.nak(), x.metadata(), {Kind: finished}, {Kind: ackEOF}} {
					if got := s.Take(p, now); got != api.ErrNil {
						t.Fatalf("Take(%+v, %d) = %d", p, now, got)
					}
				}
				if a, b, c := s.Suspend(now), s.Resume(now), s.Cancel(); a != api.ErrNil || b != api.ErrNil || c != api.ErrNil {
					t.Fatalf("Suspend, Resume, Cancel = %d, %d, %d", a, b, c)
				}
			}
			if s.State() != unknown || s.Code() != 0 || s.Clone() != nil {
				t.Fatalf("State, Code, Clone = %d, %d, %p", s.State(), s.Code(), s.Clone())
			}
		}
	}
}

// receiver is a receiving end of class 2: it acknowledges the Eof, requests what is missing until it is there, and then sends
// Finished until that is acknowledged.
type receiver struct {
	id      api.FileID
	name    string
	size    int
	sum     uint32
	known   bool
	ended   bool
	data    [file]byte
	there   [file]bool
	due     []api.Pdu
	timer   int
	patient int
	// finished is how often Finished was sent, acked how often it was acknowledged.
	finished, acked int
}

// take processes a unit of the sending end.
func (r *receiver) take(t *testing.T, p api.Pdu, now int) {
	t.Helper()
	if p.ID != r.id {
		t.Fatalf("the unit %+v is not of %v", p, r.id)
	}
	switch p.Kind {
	case metadata:
		r.known, r.name, r.size = true, p.Name, p.Size
	case fileData:
		for k, b := range p.Data {
			r.data[p.Offset+k], r.there[p.Offset+k] = b, true
		}
	case eof:
		r.due = append(r.due, api.Pdu{Kind: ackEOF, ID: r.id})
		if !r.ended {
			r.ended, r.sum, r.size = true, p.Sum, p.Size
			r.timer = now - r.patient
		}
	case ackDone:
		r.acked++
	}
}

// missing returns the gaps to be requested, at most 16.
func (r *receiver) missing() []api.Range {
	var gaps []api.Range
	if !r.known {
		gaps = append(gaps, api.Range{})
	}
	for from := 0; from < r.size && len(gaps) < 16; from++ {
		if r.there[from] {
			continue
		}
		to := from
		for to < r.size && !r.there[to] {
			to++
		}
		gaps = append(gaps, api.Range{From: from, To: to})
		from = to
	}
	return gaps
}

// next returns the units that the receiver sends now.
func (r *receiver) next(now int) []api.Pdu {
	units := r.due
	r.due = nil
	if !r.ended || r.acked > 0 || now < r.timer+r.patient {
		return units
	}
	r.timer = now
	if gaps := r.missing(); len(gaps) > 0 {
		return append(units, api.Pdu{Kind: nak, ID: r.id, Gaps: gaps})
	}
	r.finished++
	return append(units, api.Pdu{Kind: finished, ID: r.id})
}

// channel transmits units with a delay.
type channel struct {
	delay int
	units []api.Pdu
	due   []int
}

// put gives a unit to the channel.
func (c *channel) put(p api.Pdu, now int) {
	c.units, c.due = append(c.units, p), append(c.due, now+c.delay)
}

// take returns the units that have arrived.
func (c *channel) take(now int) []api.Pdu {
	n := 0
	for n < len(c.due) && c.due[n] <= now {
		n++
	}
	arrived := c.units[:n]
	c.units, c.due = c.units[n:], c.due[n:]
	return arrived
}

// carry lets a transaction of class 2 go on until both ends have ended; lost says what is lost in which direction.
func carry(t *testing.T, x transaction, delay int, lost func(now int, forward bool) bool) {
	t.Helper()
	d := made(t, x)
	r := &receiver{id: x.id, patient: 2*delay + 7}
	up, down := channel{delay: delay}, channel{delay: delay}
	for now := 0; now < 20000 && (d.m.phase != "done" || r.acked == 0); now++ {
		for range 4 {
			if p, ok := d.next(now); ok && !lost(now, true) {
				up.put(p, now)
			}
		}
		for _, p := range up.take(now) {
			r.take(t, p, now)
		}
		for _, p := range r.next(now) {
			if !lost(now, false) {
				down.put(p, now)
			}
		}
		for _, p := range down.take(now) {
			if got := d.take(p, now); got != 0 && p.Kind != ackEOF {
				t.Fatalf("Take(%+v) = %d", p, got)
			}
		}
	}
	d.is(done, 0)
	if !r.known || r.name != x.name || r.size != len(x.data) || !bytes.Equal(r.data[:r.size], x.data) || r.sum != sum(x.data) {
		t.Fatalf("%q of %d bytes was received for %q of %d bytes", r.name, r.size, x.name, len(x.data))
	}
	if len(r.missing()) > 0 || r.acked == 0 || r.finished < r.acked {
		t.Fatalf("%d gaps, Finished was sent %d times and acknowledged %d times", len(r.missing()), r.finished, r.acked)
	}
}

// P27.4: with losses in either direction or both for a while, the transaction ends, and the receiver has the name and the contents.
func TestLossyTransactions(t *testing.T) {
	next := pseudo(4)
	for _, size := range []int{0, 1, 3, 4, 5, 100, 1000} {
		for _, chunk := range []int{1, 4, 512} {
			for _, delay := range []int{0, 1, 5} {
				for _, rate := range []int{0, 10, 50, 90, 100} {
					for direction := range 3 {
						x := usual()
						x.data, x.config = contents(size), config(chunk, 20, 255)
						const calm = 700
						carry(t, x, delay, func(now int, forward bool) bool {
							if now >= calm || direction == 1 && forward || direction == 2 && !forward {
								return false
							}
							return next(100) < rate
						})
					}
				}
			}
		}
	}
}

// P27.4: every choice of the first units that are lost, in a small transaction.
func TestLostBeginnings(t *testing.T) {
	x := usual()
	x.config = config(4, 20, 10)
	for mask := range 1 << 13 {
		k := 0
		carry(t, x, 0, func(int, bool) bool {
			k++
			return mask>>min(k-1, 20)&1 == 1
		})
	}
}

// P27.4: a great file that loses much.
func TestLossyGreatFile(t *testing.T) {
	next := pseudo(5)
	x := usual()
	x.name, x.data, x.config = strings.Repeat("~", 64), contents(file), config(512, 20, 255)
	carry(t, x, 2, func(now int, forward bool) bool { return now < 300 && next(3) > 0 })
}

// P27.4: without losses nothing is sent twice.
func TestNothingLost(t *testing.T) {
	for size := range 20 {
		x := usual()
		x.data = contents(size)
		d := made(t, x)
		r := &receiver{id: x.id, patient: 5}
		for _, want := range x.all() {
			d.sends(0, want)
			r.take(t, want, 0)
		}
		answers := r.next(0)
		if !slices.EqualFunc(answers, []api.Pdu{x.ackEOF(), x.finished(0)}, same) {
			t.Fatalf("the receiver sends %+v", answers)
		}
		for _, p := range answers {
			d.takes(p, 0, 0)
		}
		d.sends(0, x.ackDone())
		d.is(done, 0)
		d.none(0, 10, 1000)
	}
}

// anyTime returns a time that follows no rule, mostly a little later than before.
func anyTime(next func(n int) int, m *model) int {
	switch next(16) {
	case 0:
		return m.now - next(20)
	case 1:
		return []int{least, -1, 0, maxTime + 1, greatest}[next(5)]
	case 2:
		return m.timer + m.config.Timeout - 1
	case 3, 4:
		return m.timer + m.config.Timeout
	case 5:
		return m.timer + m.config.Timeout + next(5)
	}
	return m.now + next(3)
}

// anyNak returns a Nak that follows no rule, mostly a valid one.
func anyNak(next func(n int) int, m *model) api.Pdu {
	var ends []int
	if next(3) == 0 {
		ends = append(ends, 0, 0)
	}
	from := next(4)
	for range 1 + next(4) {
		to := from + 1 + next(len(m.data)/2+2)
		if to > len(m.data) && next(20) > 0 {
			break
		}
		ends = append(ends, from, to)
		from = to + next(5)
	}
	if next(20) > 0 && len(ends) == 0 {
		ends = []int{0, 0}
	}
	return m.nak(ends...)
}

// step makes a call that follows no rule, and returns a word for it.
func (d *duo) step(next func(n int) int) string {
	d.t.Helper()
	now := anyTime(next, d.m)
	switch n := next(100); {
	case n < 55:
		before := d.m.phase
		p, ok := d.next(now)
		if d.m.phase == "failed" && before == "waiting" {
			return "gives up"
		}
		if !ok {
			return "none"
		}
		return fmt.Sprint("Next ", p.Kind)
	case n < 75:
		return fmt.Sprint("Nak ", d.take(anyNak(next, d.m), now))
	case n < 80:
		return fmt.Sprint("AckEof ", d.take(d.m.ackEOF(), now))
	case n < 83:
		return fmt.Sprint("Finished ", d.take(d.m.finished(api.Errno(next(2)*next(18))), now))
	case n < 87:
		p := []api.Pdu{d.m.metadata(), d.m.eof(0), d.m.ackDone(), d.m.ackEOF(), d.m.finished(0), d.m.nak(0, 0), {}}[next(7)]
		p.ID.Number ^= next(2)
		p.Size += next(2)
		return fmt.Sprint("unit ", d.take(p, now))
	case n < 91:
		return fmt.Sprint("Suspend ", d.suspend(now))
	case n < 99:
		return fmt.Sprint("Resume ", d.resume(now))
	}
	return fmt.Sprint("Cancel ", d.cancel())
}

// anyTransaction returns a transaction that follows no rule.
func anyTransaction(next func(n int) int) transaction {
	x := transaction{id: api.FileID{Source: next(16), Number: next(65536)}, class: 1 + min(next(8), 1)}
	x.name = strings.Repeat(string(rune(0x21+next(0x7E-0x20))), 1+next(64))
	x.data = contents(next(60))
	for k := range x.data {
		x.data[k] = byte(next(256))
	}
	x.config = config([]int{1, 2, 3, 7, 20, 511, 512}[next(7)], []int{1, 2, 5, 20}[next(4)], []int{0, 1, 2, 5, 255}[next(5)])
	return x
}

// P27.2, P27.5: sequences of calls that follow no rule, and clones that go ways of their own.
func TestAnyCalls(t *testing.T) {
	next := pseudo(6)
	seen := map[string]int{}
	for range 4000 {
		d := made(t, anyTransaction(next))
		if next(8) == 0 {
			d.next(maxTime - next(200))
		}
		for range 30 + next(100) {
			seen[d.step(next)]++
			if next(30) == 0 {
				e := d.clone()
				for range 15 {
					e.step(next)
				}
				d.agree("calls of a clone")
			}
		}
		d.resume(-1)
		d.exhaust()
	}
	for _, word := range []string{
		"gives up", "none", "Next 1", "Next 2", "Next 3", "Next 7", "Nak 0", "Nak 1", "Nak 4", "Nak 12", "AckEof 0", "AckEof 12", "Finished 0",
		"Finished 12", "unit 0", "unit 1", "unit 12", "Suspend 0", "Suspend 12", "Resume 0", "Resume 12", "Cancel 0", "Cancel 12",
	} {
		if seen[word] < 100 {
			t.Errorf("%q was seen %d times only", word, seen[word])
		}
	}
}

// play makes calls that follow no rule, and returns a text of everything that they return.
func play(seed uint64) string {
	next := pseudo(seed)
	x := anyTransaction(next)
	s, err := source.New(x.id, x.class, x.name, x.data, x.config)
	text := fmt.Sprintln(err)
	m := &model{transaction: x}
	for range 200 {
		switch m.now += next(3); next(8) {
		case 0:
			text += fmt.Sprintln(s.Take(anyNak(next, m), m.now))
		case 1:
			text += fmt.Sprintln(s.Take([]api.Pdu{x.ackEOF(), x.finished(0), x.metadata(), {}}[next(4)], m.now))
		case 2:
			text += fmt.Sprintln(s.Suspend(m.now), s.Resume(m.now+1), s.Clone().Cancel())
		default:
			p, ok := s.Next(m.now)
			text += fmt.Sprintln(p, ok, s.State(), s.Code())
		}
	}
	return text
}

// The rule Determinism: the same calls return the same, whatever was called in between.
func TestSameCalls(t *testing.T) {
	for seed := range uint64(100) {
		one := play(seed)
		play(seed + 1000)
		if other := play(seed); one != other {
			t.Fatalf("the same calls return %s and %s", one, other)
		}
	}
}

// The rule Termination: no call panics, whatever it is given and in whatever order, also with the greatest file and much requested.
func TestGreatArguments(t *testing.T) {
	x := usual()
	x.data, x.config = contents(file), config(1, 1<<20, 255)
	s, _ := source.New(x.id, x.class, x.name, x.data, x.config)
	for k := 0; k+64 <= 2048; k += 64 {
		var ends []int
		for j := k; j < k+64; j += 4 {
			ends = append(ends, j, j+2)
		}
		if got := s.Take(x.nak(ends...), greatest); got != 0 {
			t.Fatalf("Take = %d", got)
		}
	}
	for k := range 1024 {
		want := x.piece(k/2*4+k%2, k/2*4+k%2+1)
		if got, ok := s.Next(least); !ok || !same(got, want) {
			t.Fatalf("Next = %+v, %t, want %+v", got, ok, want)
		}
	}
	for _, now := range []int{least, greatest, maxTime + 1, maxTime} {
		s.Take(api.Pdu{Kind: nak, ID: id, Gaps: []api.Range{{From: least, To: greatest}}}, now)
		s.Take(api.Pdu{Kind: greatest, ID: api.FileID{Source: least, Number: greatest}, Class: least, Size: greatest, Offset: greatest}, now)
		s.Take(api.Pdu{Kind: finished, ID: id, Code: greatest}, now)
		s.Suspend(now)
		s.Next(now)
		s.Resume(now)
	}
	if got, ok := s.Next(0); !ok || !same(got, x.metadata()) || s.State() != active {
		t.Fatalf("Next = %+v, %t", got, ok)
	}
}
