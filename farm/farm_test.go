package farm_test

import (
	"bytes"
	"math"
	"slices"
	"testing"

	"spacecraft/api"
	"spacecraft/farm"
	"spacecraft/tcframe"
)

const (
	least    = math.MinInt
	greatest = math.MaxInt
	// craft and channel are those of most frames and receiving ends.
	craft   = 5
	channel = 1
)

// names are the verdicts in words.
var names = []string{"Rejected", "Delivered", "Repeated", "Gap", "Locked", "Control", "NoRoom"}

// pseudo returns numbers that follow no simple rule but are the same in every run.
func pseudo(seed uint64) func() uint64 {
	x := seed*2 + 0x9E3779B97F4A7C15
	return func() uint64 {
		x ^= x << 13
		x ^= x >> 7
		x ^= x << 17
		return x >> 20
	}
}

// numbered returns a sequence-controlled frame.
func numbered(seq int) api.TcFrame {
	return api.TcFrame{Craft: craft, Channel: channel, Seq: seq, Data: []byte{0xD0, byte(seq)}}
}

// bypassing returns a frame that is delivered whatever its number is.
func bypassing(seq int) api.TcFrame {
	return api.TcFrame{Bypass: true, Craft: craft, Channel: channel, Seq: seq, Data: []byte{0xB0, byte(seq)}}
}

// control returns a control frame with these data.
func control(data ...byte) api.TcFrame {
	return api.TcFrame{Bypass: true, Control: true, Craft: craft, Channel: channel, Data: data}
}

// unlock returns the frame that clears the lockout.
func unlock() api.TcFrame { return control(0) }

// setNext returns the frame that sets the next number.
func setNext(n int) api.TcFrame { return control(0x82, 0, byte(n)) }

// model is a receiving end as the chapter describes it.
type model struct {
	craft, channel, window    int
	next, bypass              int
	lockout, wait, retransmit bool
}

// newModel is New, for arguments that New permits.
func newModel(craft, channel, window int) model {
	return model{craft: craft, channel: channel, window: max(1, min(window, 127))}
}

// permits is rule 1, one condition after the other.
func (m *model) permits(x api.TcFrame) bool {
	switch {
	case x.Craft != m.craft || x.Channel != m.channel:
		return false
	case x.Seq < 0 || x.Seq >= 256:
		return false
	case len(x.Data) == 0 || len(x.Data) >= 1018:
		return false
	case x.Control && !x.Bypass:
		return false
	}
	return true
}

// place returns the verdict of the rules 5 to 8 with room, by the number of steps from next to seq.
func (m *model) place(seq int) int {
	steps := (seq - m.next + 256) % 256
	switch {
	case steps == 0:
		return farm.Delivered
	case steps < m.window:
		return farm.Gap
	case steps >= 256-m.window:
		return farm.Repeated
	}
	return farm.Locked
}

// done is what a directive does besides its purpose.
func (m *model) done() int {
	m.wait, m.retransmit = false, false
	m.bypass = (m.bypass + 1) % 4
	return farm.Control
}

// direct is rule 2.
func (m *model) direct(data []byte) int {
	if len(data) == 1 && data[0] == 0 {
		m.lockout = false
		return m.done()
	}
	if len(data) != 3 || data[0] != 0x82 || data[1] != 0 {
		return farm.Rejected
	}
	if m.lockout {
		return farm.Locked
	}
	m.next = int(data[2])
	return m.done()
}

// take is P16.2, without the data.
func (m *model) take(x api.TcFrame, room bool) int {
	switch {
	case !m.permits(x):
		return farm.Rejected
	case x.Control:
		return m.direct(x.Data)
	case x.Bypass:
		m.bypass = (m.bypass + 1) % 4
		return farm.Delivered
	case m.lockout:
		return farm.Locked
	}
	verdict := m.place(x.Seq)
	switch {
	case verdict == farm.Delivered && !room:
		m.wait, m.retransmit = true, true
		return farm.NoRoom
	case verdict == farm.Delivered:
		m.next = (m.next + 1) % 256
		m.wait, m.retransmit = false, false
	case verdict == farm.Gap:
		m.retransmit = true
	case verdict == farm.Locked:
		m.lockout = true
	}
	return verdict
}

// report is the control word of the model.
func (m *model) report() api.Clcw {
	return api.Clcw{
		Channel: m.channel, Lockout: m.lockout, Wait: m.wait, Retransmit: m.retransmit, Bypass: m.bypass, Next: m.next,
	}
}

// made returns a receiving end of New, which is not nil.
func made(t *testing.T, craft, channel, window int) *farm.Farm {
	t.Helper()
	f := farm.New(craft, channel, window)
	if f == nil {
		t.Fatalf("New(%d, %d, %d) = nil", craft, channel, window)
	}
	return f
}

// sameFrame reports whether two frames are the same, with their data.
func sameFrame(x, y api.TcFrame) bool {
	return x.Bypass == y.Bypass && x.Control == y.Control && x.Craft == y.Craft && x.Channel == y.Channel && x.Seq == y.Seq &&
		bytes.Equal(x.Data, y.Data)
}

// outline is a frame with the first of its data, which are enough for a message.
func outline(x api.TcFrame) api.TcFrame {
	x.Data = x.Data[:min(len(x.Data), 8)]
	return x
}

// expectTake checks the verdict on a frame, that its data are returned if and only if they are delivered, and that the frame
// stays as it is.
func expectTake(t *testing.T, f *farm.Farm, x api.TcFrame, room bool, want int) {
	t.Helper()
	before := x
	before.Data = bytes.Clone(x.Data)
	data, verdict := f.Take(x, room)
	if verdict != want {
		t.Fatalf("Take(%+v, %t): %d, want %s", outline(x), room, verdict, names[want])
	}
	if want == farm.Delivered && !bytes.Equal(data, x.Data) || want != farm.Delivered && len(data) != 0 {
		t.Fatalf("Take(%+v, %t): %s with the data % X", outline(x), room, names[want], data)
	}
	if !sameFrame(x, before) {
		t.Fatalf("Take changed %+v to %+v", outline(before), outline(x))
	}
}

// expectState checks the control word; the letters of flags are L for lockout, W for wait and R for retransmit.
func expectState(t *testing.T, f *farm.Farm, flags string, bypass, next int) {
	t.Helper()
	want := api.Clcw{
		Channel:    channel,
		Lockout:    bytes.ContainsRune([]byte(flags), 'L'),
		Wait:       bytes.ContainsRune([]byte(flags), 'W'),
		Retransmit: bytes.ContainsRune([]byte(flags), 'R'),
		Bypass:     bypass,
		Next:       next,
	}
	for range 2 {
		if got := f.Report(); got != want {
			t.Fatalf("Report() = %+v, want %+v", got, want)
		}
	}
}

// expectModel checks that a frame is answered as the model says.
func expectModel(t *testing.T, f *farm.Farm, m *model, x api.TcFrame, room bool) {
	t.Helper()
	before := *m
	expectTake(t, f, x, room, m.take(x, room))
	if got, want := f.Report(), m.report(); got != want {
		t.Fatalf("from %+v, Take(%+v, %t) leads to %+v, want %+v", before, outline(x), room, got, want)
	}
}

// reachable are the combinations of flags that there are: wait is set and cleared with retransmit only.
var reachable = []string{"", "R", "WR", "L", "LR", "LWR"}

// prepared returns a receiving end with these flags, the bypass counter and next, and its model. The window is at least 2, and
// at most 100.
func prepared(t *testing.T, window int, flags string, bypass, next int) (*farm.Farm, *model) {
	t.Helper()
	f, m := made(t, craft, channel, window), newModel(craft, channel, window)
	expectModel(t, f, &m, setNext(next), true)
	for m.bypass != bypass {
		expectModel(t, f, &m, bypassing(0), true)
	}
	for _, flag := range flags {
		switch flag {
		case 'W':
			expectModel(t, f, &m, numbered(next), false)
		case 'R':
			expectModel(t, f, &m, numbered((next+1)%256), true)
		}
	}
	if slices.Contains([]rune(flags), 'L') {
		expectModel(t, f, &m, numbered((next+128)%256), true)
	}
	expectState(t, f, flags, bypass, next)
	return f, &m
}

// P16.2: the chapter's example.
func TestExample(t *testing.T) {
	f := made(t, craft, channel, 4)
	for i, seq := range []int{0, 2, 1, 0, 9} {
		want := []int{farm.Delivered, farm.Gap, farm.Delivered, farm.Repeated, farm.Locked}[i]
		expectTake(t, f, numbered(seq), true, want)
	}
	expectState(t, f, "L", 0, 2)
}

// P16.2: the verdicts have the values that the chapter gives.
func TestVerdicts(t *testing.T) {
	got := []int{farm.Rejected, farm.Delivered, farm.Repeated, farm.Gap, farm.Locked, farm.Control, farm.NoRoom}
	if !slices.Equal(got, []int{0, 1, 2, 3, 4, 5, 6}) {
		t.Fatalf("the verdicts are %v", got)
	}
}

// P16.1: New for craft and channel at the edges; a receiving end takes the frames of its own craft and channel only.
func TestNew(t *testing.T) {
	crafts := []int{least, least + 1, -1 << 32, -1024, -1, 0, 1, 5, 1022, 1023, 1024, 1025, 2047, 1 << 32, 1<<32 + 5, greatest}
	channels := []int{least, least + 1, -1 << 32, -8, -1, 0, 1, 6, 7, 8, 9, 15, 63, 1 << 32, 1<<32 + 1, greatest}
	for _, craft := range crafts {
		for _, channel := range channels {
			f := farm.New(craft, channel, 10)
			if craft < 0 || craft > 1023 || channel < 0 || channel > 7 {
				if f != nil {
					t.Fatalf("New(%d, %d, 10) is not nil", craft, channel)
				}
				continue
			}
			if f == nil {
				t.Fatalf("New(%d, %d, 10) = nil", craft, channel)
			}
			if got, want := f.Report(), (api.Clcw{Channel: channel}); got != want {
				t.Fatalf("New(%d, %d, 10) reports %+v, want %+v", craft, channel, got, want)
			}
			m := newModel(craft, channel, 10)
			for _, x := range []api.TcFrame{
				{Craft: craft, Channel: channel ^ 1, Data: []byte{1}},
				{Craft: craft ^ 1, Channel: channel, Data: []byte{1}},
				{Craft: craft, Channel: channel, Data: []byte{1}},
				{Craft: craft, Channel: channel, Seq: 1, Data: []byte{2}},
			} {
				expectModel(t, f, &m, x, true)
			}
			if m.next != 2 {
				t.Fatalf("%d frames were delivered, want 2", m.next)
			}
		}
	}
}

// P16.1: every craft and every channel that is permitted.
func TestNewEvery(t *testing.T) {
	for craft := -2; craft <= 1026; craft++ {
		for channel := -2; channel <= 10; channel++ {
			f := farm.New(craft, channel, 1)
			if want := craft >= 0 && craft <= 1023 && channel >= 0 && channel <= 7; (f != nil) != want {
				t.Fatalf("New(%d, %d, 1) is not nil: %t, want %t", craft, channel, f != nil, want)
			}
			if f == nil {
				continue
			}
			expectTake(t, f, api.TcFrame{Craft: craft, Channel: channel, Data: []byte{9}}, true, farm.Delivered)
			if got, want := f.Report(), (api.Clcw{Channel: channel, Next: 1}); got != want {
				t.Fatalf("Report() = %+v, want %+v", got, want)
			}
		}
	}
}

// P16.1, P16.2: windows that are clamped and windows that are not, seen by the verdict on every number.
func TestWindows(t *testing.T) {
	for _, c := range []struct{ window, want int }{
		{least, 1}, {-1 << 32, 1}, {-255, 1}, {-127, 1}, {-2, 1}, {-1, 1}, {0, 1}, {1, 1}, {2, 2}, {3, 3}, {63, 63}, {64, 64},
		{126, 126}, {127, 127}, {128, 127}, {129, 127}, {255, 127}, {256, 127}, {257, 127}, {1 << 32, 127}, {1<<32 + 2, 127},
		{greatest, 127},
	} {
		counts := make([]int, len(names))
		for seq := range 256 {
			f := made(t, craft, channel, c.window)
			data, verdict := f.Take(numbered(seq), true)
			counts[verdict]++
			if (len(data) > 0) != (seq == 0) {
				t.Fatalf("window %d: the frame %d yields % X", c.window, seq, data)
			}
			want := farm.Locked
			switch {
			case seq == 0:
				want = farm.Delivered
			case seq <= c.want-1:
				want = farm.Gap
			case 256-seq <= c.want:
				want = farm.Repeated
			}
			if verdict != want {
				t.Fatalf("window %d: the frame %d: %s, want %s", c.window, seq, names[verdict], names[want])
			}
		}
		if counts[farm.Gap] != c.want-1 || counts[farm.Repeated] != c.want || counts[farm.Locked] != 256-2*c.want {
			t.Fatalf("window %d: the verdicts have the counts %v", c.window, counts)
		}
	}
}

// P16.2: the numbers at the edges of the window, written out.
func TestWindowEdges(t *testing.T) {
	for _, c := range []struct{ window, next, seq, want int }{
		{1, 0, 1, farm.Locked}, {1, 0, 255, farm.Repeated}, {1, 0, 254, farm.Locked},
		{1, 255, 0, farm.Locked}, {1, 255, 254, farm.Repeated}, {1, 255, 253, farm.Locked},
		{2, 0, 1, farm.Gap}, {2, 0, 2, farm.Locked}, {2, 0, 254, farm.Repeated}, {2, 0, 253, farm.Locked},
		{2, 255, 0, farm.Gap}, {2, 255, 1, farm.Locked}, {2, 255, 253, farm.Repeated}, {2, 255, 252, farm.Locked},
		{4, 2, 5, farm.Gap}, {4, 2, 6, farm.Locked}, {4, 2, 254, farm.Repeated}, {4, 2, 253, farm.Locked},
		{64, 100, 163, farm.Gap}, {64, 100, 164, farm.Locked}, {64, 100, 36, farm.Repeated}, {64, 100, 35, farm.Locked},
		{127, 0, 126, farm.Gap}, {127, 0, 127, farm.Locked}, {127, 0, 128, farm.Locked}, {127, 0, 129, farm.Repeated},
		{127, 200, 70, farm.Gap}, {127, 200, 71, farm.Locked}, {127, 200, 72, farm.Locked}, {127, 200, 73, farm.Repeated},
		{128, 200, 71, farm.Locked}, {128, 200, 72, farm.Locked}, {126, 200, 69, farm.Gap}, {126, 200, 70, farm.Locked},
		{126, 200, 73, farm.Locked}, {126, 200, 74, farm.Repeated},
	} {
		for _, room := range []bool{false, true} {
			f := made(t, craft, channel, c.window)
			expectTake(t, f, setNext(c.next), true, farm.Control)
			expectTake(t, f, numbered(c.seq), room, c.want)
			flags := map[int]string{farm.Locked: "L", farm.Gap: "R"}[c.want]
			expectState(t, f, flags, 1, c.next)
		}
	}
}

// P16.2: every number against every next number, for several windows, with and without room.
func TestEverySeq(t *testing.T) {
	for _, window := range []int{1, 2, 64, 127} {
		for next := range 256 {
			f, m := made(t, craft, channel, window), newModel(craft, channel, window)
			expectModel(t, f, &m, setNext(next), true)
			for seq := range 256 {
				x := numbered(seq)
				for _, room := range []bool{false, true} {
					g, n := f.Clone(), m
					expectModel(t, g, &n, x, room)
				}
			}
		}
	}
}

// P16.2: each of the eight rules by itself.
func TestRules(t *testing.T) {
	other := numbered(100)
	other.Channel = 2
	for _, c := range []struct {
		flags   string
		x       api.TcFrame
		room    bool
		verdict int
		after   string
		bypass  int
		next    int
	}{
		{"", other, true, farm.Rejected, "", 2, 100},
		{"", control(1), true, farm.Rejected, "", 2, 100},
		{"L", unlock(), true, farm.Control, "", 3, 100},
		{"L", setNext(7), true, farm.Locked, "L", 2, 100},
		{"R", setNext(7), true, farm.Control, "", 3, 7},
		{"", bypassing(200), true, farm.Delivered, "", 3, 100},
		{"L", numbered(200), true, farm.Locked, "L", 2, 100},
		{"", numbered(100), false, farm.NoRoom, "WR", 2, 100},
		{"WR", numbered(100), true, farm.Delivered, "", 2, 101},
		{"", numbered(103), true, farm.Gap, "R", 2, 100},
		{"", numbered(96), true, farm.Repeated, "", 2, 100},
		{"", numbered(104), true, farm.Locked, "L", 2, 100},
		{"", numbered(95), true, farm.Locked, "L", 2, 100},
	} {
		f, _ := prepared(t, 4, c.flags, 2, 100)
		expectTake(t, f, c.x, c.room, c.verdict)
		expectState(t, f, c.after, c.bypass, c.next)
	}
}

// places are the numbers that the rules 5 to 8 concern, for the window 4 and the next number 100.
var places = []int{100, 101, 103, 99, 96, 104, 95, 228, 0, 255}

// broken returns x with each single fault that rule 1 names, and with several of them.
func broken(x api.TcFrame) []api.TcFrame {
	var some []api.TcFrame
	add := func(change func(x *api.TcFrame)) {
		y := x
		change(&y)
		some = append(some, y)
	}
	for _, n := range []int{least, -1, 0, craft - 1, craft + 1, 1023, 1024, 1024 + craft, 1<<32 + craft, greatest} {
		add(func(x *api.TcFrame) { x.Craft = n })
		add(func(x *api.TcFrame) { x.Craft, x.Channel = n, 2 })
	}
	for _, n := range []int{least, -1, 0, channel + 1, 7, 8, 8 + channel, 64 + channel, 1<<32 + channel, greatest} {
		add(func(x *api.TcFrame) { x.Channel = n })
		add(func(x *api.TcFrame) { x.Channel, x.Seq = n, -1 })
	}
	for _, n := range []int{least, x.Seq - 256, -1, 256, x.Seq + 256, x.Seq + 1<<32, greatest} {
		add(func(x *api.TcFrame) { x.Seq = n })
	}
	add(func(x *api.TcFrame) { x.Data = nil })
	add(func(x *api.TcFrame) { x.Data = []byte{} })
	add(func(x *api.TcFrame) { x.Data = make([]byte, 1018) })
	add(func(x *api.TcFrame) { x.Data = make([]byte, 5000) })
	add(func(x *api.TcFrame) { x.Bypass, x.Control = false, true })
	add(func(x *api.TcFrame) { x.Bypass, x.Control, x.Craft, x.Data = false, true, -1, nil })
	return some
}

// P16.2: rule 1 comes before every other rule, for each reason that a frame is not valid, and nothing changes.
func TestRejected(t *testing.T) {
	kinds := []api.TcFrame{unlock(), setNext(7), control(9)}
	for _, seq := range places {
		kinds = append(kinds, numbered(seq), bypassing(seq))
	}
	for _, flags := range reachable {
		f, _ := prepared(t, 4, flags, 3, 100)
		for _, kind := range kinds {
			for _, x := range broken(kind) {
				expectTake(t, f, x, true, farm.Rejected)
				expectTake(t, f, x, false, farm.Rejected)
			}
		}
		expectState(t, f, flags, 3, 100)
	}
}

// P16.2: the longest and the shortest data are not a reason to reject a frame.
func TestDataSizes(t *testing.T) {
	f := made(t, craft, channel, 4)
	for i, size := range []int{1, 2, 1016, 1017} {
		x := numbered(i)
		x.Data = bytes.Repeat([]byte{byte(i)}, size)
		expectTake(t, f, x, true, farm.Delivered)
		x.Bypass = true
		expectTake(t, f, x, true, farm.Delivered)
	}
	expectState(t, f, "", 0, 4)
}

// P16.2: rule 2 comes before the rules 3 to 8: a control frame is never delivered, whatever its number is, in lockout and out of
// it.
func TestControlFirst(t *testing.T) {
	for _, flags := range reachable {
		locked := len(flags) > 0 && flags[0] == 'L'
		for _, seq := range places {
			for _, room := range []bool{false, true} {
				x := control(0x55)
				x.Seq = seq
				f, _ := prepared(t, 4, flags, 3, 100)
				expectTake(t, f, x, room, farm.Rejected)
				expectState(t, f, flags, 3, 100)

				x.Data = []byte{0x82, 0, 9}
				if locked {
					expectTake(t, f, x, room, farm.Locked)
					expectState(t, f, flags, 3, 100)
				} else {
					expectTake(t, f.Clone(), x, room, farm.Control)
				}

				x.Data = []byte{0}
				expectTake(t, f, x, room, farm.Control)
				expectState(t, f, "", 0, 100)
			}
		}
	}
}

// P16.2: a control frame without a directive is rejected and changes nothing, also in lockout.
func TestNoDirective(t *testing.T) {
	for _, flags := range reachable {
		f, _ := prepared(t, 4, flags, 1, 100)
		for _, data := range [][]byte{
			{1}, {0x80}, {0x82}, {0xFF}, {0, 0}, {0, 1}, {0x82, 0}, {0x82, 1, 5}, {0x82, 0x82, 5}, {0x81, 0, 5}, {0x83, 0, 5},
			{0, 0, 5}, {0, 0, 0}, {2, 0, 5}, {0x82, 0, 5, 0}, {0x82, 0, 5, 5}, {0, 0x82, 0, 5}, make([]byte, 1017),
		} {
			expectTake(t, f, control(data...), true, farm.Rejected)
			expectTake(t, f, control(data...), false, farm.Rejected)
			expectState(t, f, flags, 1, 100)
		}
	}
}

// P16.2: the data of the directives without Control are delivered and carry out nothing.
func TestDirectiveDelivered(t *testing.T) {
	for _, flags := range reachable {
		f, _ := prepared(t, 4, flags, 1, 100)
		for _, x := range []api.TcFrame{unlock(), setNext(9)} {
			x.Control = false
			expectTake(t, f, x, true, farm.Delivered)
		}
		expectState(t, f, flags, 3, 100)
	}
	f, _ := prepared(t, 4, "WR", 1, 100)
	for i, x := range []api.TcFrame{unlock(), setNext(9)} {
		x.Bypass, x.Control, x.Seq = false, false, 100+i
		expectTake(t, f, x, true, farm.Delivered)
	}
	expectState(t, f, "", 1, 102)
}

// P16.2: the directive that clears the lockout, with each combination of the flags set before.
func TestUnlock(t *testing.T) {
	for _, flags := range reachable {
		for bypass := range 4 {
			for _, next := range []int{0, 1, 100, 128, 255} {
				for _, room := range []bool{false, true} {
					f, _ := prepared(t, 4, flags, bypass, next)
					expectTake(t, f, unlock(), room, farm.Control)
					expectState(t, f, "", (bypass+1)%4, next)
					expectTake(t, f, tcframe.Unlock(craft, channel), room, farm.Control)
					expectState(t, f, "", (bypass+2)%4, next)
					// what was locked out is taken again
					expectTake(t, f, numbered(next), true, farm.Delivered)
					expectState(t, f, "", (bypass+2)%4, (next+1)%256)
				}
			}
		}
	}
}

// P16.2: the directive that sets the next number, to every number and with each combination of the flags set before.
func TestSetNext(t *testing.T) {
	for _, flags := range reachable {
		for next := range 256 {
			for _, room := range []bool{false, true} {
				f, _ := prepared(t, 4, flags, 2, 100)
				if flags != "" && flags[0] == 'L' {
					expectTake(t, f, setNext(next), room, farm.Locked)
					expectState(t, f, flags, 2, 100)
					expectTake(t, f, numbered(next), true, farm.Locked)
					expectTake(t, f, unlock(), true, farm.Control)
					expectState(t, f, "", 3, 100)
					continue
				}
				expectTake(t, f, setNext(next), room, farm.Control)
				expectState(t, f, "", 3, next)
				expectTake(t, f, tcframe.SetNext(craft, channel, next), room, farm.Control)
				expectState(t, f, "", 0, next)
				expectTake(t, f, numbered((next+255)%256), true, farm.Repeated)
				expectTake(t, f, numbered(next), true, farm.Delivered)
				expectState(t, f, "", 0, (next+1)%256)
			}
		}
	}
}

// P16.2: the bypass counter goes from 3 to 0, by frames and by directives.
func TestBypassCounter(t *testing.T) {
	f := made(t, craft, channel, 4)
	for i := 1; i <= 20; i++ {
		x := []api.TcFrame{bypassing(0), unlock(), setNext(9), bypassing(255), bypassing(9)}[i%5]
		if x.Control {
			expectTake(t, f, x, true, farm.Control)
		} else {
			expectTake(t, f, x, true, farm.Delivered)
		}
		if got := f.Report().Bypass; got != i%4 {
			t.Fatalf("after %d frames, the bypass counter is %d", i, got)
		}
	}
	for i, kind := range []api.TcFrame{bypassing(1), unlock(), setNext(3)} {
		f := made(t, craft, channel, 4)
		for j := 1; j <= 9; j++ {
			f.Take(kind, j%2 == 0)
			if got := f.Report().Bypass; got != j%4 {
				t.Fatalf("kind %d: after %d frames, the bypass counter is %d", i, j, got)
			}
		}
	}
}

// P16.2: frames that are neither obeyed nor delivered without regard to their number do not count.
func TestNotCounted(t *testing.T) {
	for bypass := range 4 {
		f, _ := prepared(t, 4, "", bypass, 100)
		wrong := bypassing(1)
		wrong.Craft++
		empty := bypassing(1)
		empty.Data = nil
		for _, x := range []api.TcFrame{wrong, empty, control(7), control(0, 0)} {
			expectTake(t, f, x, true, farm.Rejected)
		}
		expectTake(t, f, numbered(100), true, farm.Delivered)
		expectTake(t, f, numbered(100), true, farm.Repeated)
		expectTake(t, f, numbered(102), true, farm.Gap)
		expectTake(t, f, numbered(101), false, farm.NoRoom)
		expectTake(t, f, numbered(200), true, farm.Locked)
		expectTake(t, f, numbered(101), true, farm.Locked)
		expectTake(t, f, setNext(5), true, farm.Locked)
		expectState(t, f, "LWR", bypass, 101)
	}
}

// P16.2: rule 3 comes before the rules 4 to 8: frames with Bypass in lockout, without room and with every number.
func TestBypass(t *testing.T) {
	for _, flags := range reachable {
		for seq := range 256 {
			for _, room := range []bool{false, true} {
				f, _ := prepared(t, 4, flags, 3, 100)
				expectTake(t, f, bypassing(seq), room, farm.Delivered)
				expectState(t, f, flags, 0, 100)
			}
		}
	}
}

// P16.2: rule 4 comes before the rules 5 to 8: in lockout, no number is taken and nothing changes.
func TestLockout(t *testing.T) {
	for _, flags := range []string{"L", "LR", "LWR"} {
		for _, room := range []bool{false, true} {
			f, _ := prepared(t, 4, flags, 3, 100)
			for seq := range 256 {
				expectTake(t, f, numbered(seq), room, farm.Locked)
				expectState(t, f, flags, 3, 100)
			}
			expectTake(t, f, unlock(), room, farm.Control)
			expectTake(t, f, numbered(100), true, farm.Delivered)
		}
	}
}

// P16.2: which flags each verdict sets and clears, with each combination of the flags before.
func TestFlags(t *testing.T) {
	for _, c := range []struct {
		seq     int
		room    bool
		verdict int
		after   [3]string
		next    int
	}{
		{100, true, farm.Delivered, [3]string{"", "", ""}, 101},
		{100, false, farm.NoRoom, [3]string{"WR", "WR", "WR"}, 100},
		{101, true, farm.Gap, [3]string{"R", "R", "WR"}, 100},
		{101, false, farm.Gap, [3]string{"R", "R", "WR"}, 100},
		{103, true, farm.Gap, [3]string{"R", "R", "WR"}, 100},
		{99, true, farm.Repeated, [3]string{"", "R", "WR"}, 100},
		{99, false, farm.Repeated, [3]string{"", "R", "WR"}, 100},
		{96, true, farm.Repeated, [3]string{"", "R", "WR"}, 100},
		{104, true, farm.Locked, [3]string{"L", "LR", "LWR"}, 100},
		{104, false, farm.Locked, [3]string{"L", "LR", "LWR"}, 100},
		{95, true, farm.Locked, [3]string{"L", "LR", "LWR"}, 100},
		{228, false, farm.Locked, [3]string{"L", "LR", "LWR"}, 100},
	} {
		for i, flags := range []string{"", "R", "WR"} {
			f, _ := prepared(t, 4, flags, 1, 100)
			expectTake(t, f, numbered(c.seq), c.room, c.verdict)
			expectState(t, f, c.after[i], 1, c.next)
		}
	}
}

// P16.2: NoRoom as long as there is no room, then the same frame with room.
func TestNoRoom(t *testing.T) {
	for _, window := range []int{1, 2, 4, 127} {
		f := made(t, craft, channel, window)
		expectTake(t, f, setNext(255), false, farm.Control)
		for range 3 {
			expectTake(t, f, numbered(255), false, farm.NoRoom)
			expectState(t, f, "WR", 1, 255)
		}
		expectTake(t, f, numbered(254), false, farm.Repeated)
		expectState(t, f, "WR", 1, 255)
		expectTake(t, f, bypassing(255), false, farm.Delivered)
		expectState(t, f, "WR", 2, 255)
		expectTake(t, f, numbered(255), true, farm.Delivered)
		expectState(t, f, "", 2, 0)
		expectTake(t, f, numbered(0), false, farm.NoRoom)
		expectState(t, f, "WR", 2, 0)
		expectTake(t, f, numbered(255), true, farm.Repeated)
		expectTake(t, f, numbered(0), true, farm.Delivered)
		expectState(t, f, "", 2, 1)
	}
}

// P16.2, P16.3: more than 256 frames in sequence, across 255 and 0; a number is delivered again after all the others only.
func TestLongSequence(t *testing.T) {
	for _, window := range []int{1, 2, 64, 127} {
		f := made(t, craft, channel, window)
		expectTake(t, f, setNext(250), true, farm.Control)
		for i := range 1000 {
			seq := (250 + i) % 256
			x := api.TcFrame{Craft: craft, Channel: channel, Seq: seq, Data: []byte{byte(i >> 8), byte(i)}}
			expectTake(t, f, x, true, farm.Delivered)
			expectState(t, f, "", 1, (seq+1)%256)
			expectTake(t, f, x, true, farm.Repeated)
			expectState(t, f, "", 1, (seq+1)%256)
		}
	}
}

// P16.3: a sender that repeats what is not confirmed, over a channel that loses and repeats frames: all data arrive in order,
// each once.
func TestLossyChannel(t *testing.T) {
	const total = 700
	next := pseudo(3)
	for _, window := range []int{1, 2, 5, 64, 127} {
		f := made(t, craft, channel, window)
		var arrived []int
		for rounds := 0; len(arrived) < total; rounds++ {
			if rounds > 100000 {
				t.Fatalf("window %d: only %d data arrived", window, len(arrived))
			}
			// The sender begins with the frame that the control word asks for.
			first := len(arrived)
			if got := f.Report().Next; got != first%256 {
				t.Fatalf("window %d: the control word asks for %d after %d frames", window, got, first)
			}
			for i := max(first-window, 0); i < min(first+window, total); i++ {
				x := api.TcFrame{Craft: craft, Channel: channel, Seq: i % 256, Data: []byte{byte(i >> 8), byte(i)}}
				for copies := next() % 3; copies > 0; copies-- {
					if data, verdict := f.Take(x, next()%4 > 0); verdict == farm.Delivered {
						arrived = append(arrived, int(data[0])<<8+int(data[1]))
					}
				}
				if f.Report().Lockout {
					t.Fatalf("window %d: locked by the frame %d after %d", window, i, first)
				}
			}
		}
		for i, got := range arrived {
			if got != i {
				t.Fatalf("window %d: the data %d are those of the frame %d", window, i, got)
			}
		}
	}
}

// nearby returns a frame that follows no rule: mostly a sequence-controlled one with a number near next.
func nearby(next func() uint64, m *model) api.TcFrame {
	x := api.TcFrame{Craft: m.craft, Channel: m.channel, Data: make([]byte, 1+next()%4)}
	for i := range x.Data {
		x.Data[i] = byte(next())
	}
	switch next() % 4 {
	case 0:
		x.Seq = int(next() % 256)
	case 1:
		x.Seq = (m.next + 256 - m.window + int(next()%4) - 2) % 256
	case 2:
		x.Seq = (m.next + m.window + 256 + int(next()%4) - 3) % 256
	case 3:
		x.Seq = (m.next + int(next()%3) + 255) % 256
	}
	switch next() % 24 {
	case 0, 1, 2:
		x.Bypass = true
	case 3, 4, 5:
		x.Bypass, x.Control, x.Data = true, true, []byte{0}
	case 6:
		x.Bypass, x.Control, x.Data = true, true, []byte{0x82, 0, byte(next())}
	case 7:
		x.Bypass, x.Control = true, true
	case 8:
		some := broken(x)
		x = some[int(next())%len(some)]
	}
	return x
}

// P16.1, P16.2: sequences of frames that follow no rule, and clones that go ways of their own.
func TestAnyFrames(t *testing.T) {
	next := pseudo(1)
	seen := make([]int, len(names))
	for range 300 {
		window := []int{1, 2, 3, 4, 10, 64, 126, 127}[next()%8]
		craft, channel := int(next()%1024), int(next()%8)
		f, m := made(t, craft, channel, window), newModel(craft, channel, window)
		for range 300 {
			x := nearby(next, &m)
			room := next()%4 > 0
			expectModel(t, f, &m, x, room)
			_, verdict := f.Clone().Take(x, room)
			seen[verdict]++
			if next()%30 == 0 {
				g, n := f.Clone(), m
				for range 10 {
					expectModel(t, g, &n, nearby(next, &n), next()%2 == 0)
				}
				if got := f.Report(); got != m.report() {
					t.Fatalf("a clone changed the control word to %+v", got)
				}
			}
		}
	}
	for verdict, count := range seen {
		if count < 500 {
			t.Fatalf("only %d frames were answered with %s", count, names[verdict])
		}
	}
}

// P16.3: in any sequence of frames, what is delivered between two settings of next has consecutive numbers that begin with next.
func TestConsecutive(t *testing.T) {
	next := pseudo(2)
	for range 100 {
		window := 1 + int(next()%127)
		f, m := made(t, craft, channel, window), newModel(craft, channel, window)
		want, longest, run := 0, 0, 0
		for range 3000 {
			x := nearby(next, &m)
			if x.Control && next()%20 > 0 {
				// Most of the settings are left out, so that the sequences between them are long.
				x = unlock()
			}
			data, verdict := f.Take(x, true)
			m.take(x, true)
			switch {
			case verdict == farm.Control && len(x.Data) == 3:
				want, run = int(x.Data[2]), 0
			case verdict == farm.Delivered && !x.Bypass:
				if x.Seq != want || !bytes.Equal(data, x.Data) {
					t.Fatalf("the frame %d is delivered with % X, want the frame %d", x.Seq, data, want)
				}
				want, run = (want+1)%256, run+1
				longest = max(longest, run)
			}
			if got := f.Report().Next; got != want {
				t.Fatalf("the control word asks for %d, want %d", got, want)
			}
		}
		if longest < 10 {
			t.Fatalf("at most %d frames were delivered in sequence", longest)
		}
	}
}

// P16.1, P16.2, the rule Objects: a clone is as its original, and neither is changed by what is done to the other.
func TestClone(t *testing.T) {
	for _, change := range []struct {
		x      api.TcFrame
		room   bool
		flags  string
		bypass int
		next   int
	}{
		{numbered(100), true, "", 1, 101},
		{numbered(100), false, "WR", 1, 100},
		{numbered(102), true, "R", 1, 100},
		{numbered(200), true, "LR", 1, 100},
		{bypassing(3), true, "R", 2, 100},
		{unlock(), true, "", 2, 100},
		{setNext(9), true, "", 2, 9},
	} {
		for _, swap := range []bool{false, true} {
			f, _ := prepared(t, 4, "R", 1, 100)
			g := f.Clone()
			if g == nil || g == f {
				t.Fatal("Clone returned nil or its own receiving end")
			}
			expectState(t, g, "R", 1, 100)
			if swap {
				f, g = g, f
			}
			f.Take(change.x, change.room)
			expectState(t, f, change.flags, change.bypass, change.next)
			expectState(t, g, "R", 1, 100)
			expectTake(t, g, numbered(101), true, farm.Gap)
			expectTake(t, g, numbered(100), true, farm.Delivered)
			expectTake(t, g, numbered(101), true, farm.Delivered)
			expectState(t, g, "", 1, 102)
			expectState(t, f, change.flags, change.bypass, change.next)
		}
	}
}

// P16.1, the rule Objects: a clone, and a clone of a clone, have the same craft, channel, window, flags and numbers.
func TestCloneSame(t *testing.T) {
	for _, window := range []int{0, 1, 2, 64, 127, greatest} {
		for _, at := range []struct{ craft, channel int }{{0, 0}, {1023, 7}, {5, 1}} {
			f, m := made(t, at.craft, at.channel, window).Clone().Clone(), newModel(at.craft, at.channel, window)
			for seq := range 256 {
				g, n := f.Clone(), m
				expectModel(t, g, &n, api.TcFrame{Craft: at.craft, Channel: at.channel, Seq: seq, Data: []byte{1}}, true)
				expectModel(t, g, &n, api.TcFrame{Craft: at.craft ^ 1, Channel: at.channel, Seq: seq, Data: []byte{1}}, true)
				expectModel(t, g, &n, api.TcFrame{Craft: at.craft, Channel: at.channel ^ 1, Seq: seq, Data: []byte{1}}, true)
			}
		}
	}
	for _, flags := range reachable {
		f, _ := prepared(t, 4, flags, 3, 255)
		expectState(t, f.Clone(), flags, 3, 255)
		expectState(t, f.Clone().Clone(), flags, 3, 255)
	}
}

// P16.1, P16.2: receiving ends do not affect each other.
func TestSeparate(t *testing.T) {
	f, g := made(t, craft, channel, 4), made(t, craft, channel, 4)
	expectTake(t, f, numbered(0), true, farm.Delivered)
	expectTake(t, f, numbered(100), true, farm.Locked)
	expectTake(t, f, bypassing(0), true, farm.Delivered)
	expectState(t, g, "", 0, 0)
	expectTake(t, g, numbered(0), true, farm.Delivered)
	expectState(t, f, "L", 1, 1)
	expectState(t, g, "", 0, 1)
}

// P16.1, P16.2, the rule Nil objects: nil and zero values reject every frame, report nothing and stay as they are.
func TestNil(t *testing.T) {
	for _, f := range []*farm.Farm{nil, {}, new(farm.Farm), farm.New(-1, 0, 1), farm.New(0, 8, 1)} {
		for range 2 {
			for _, x := range []api.TcFrame{
				{}, {Data: []byte{1}}, {Seq: 1, Data: []byte{1}}, {Bypass: true, Data: []byte{1}},
				{Bypass: true, Control: true, Data: []byte{0}}, {Bypass: true, Control: true, Data: []byte{0x82, 0, 5}},
				numbered(0), bypassing(0), unlock(), setNext(5),
			} {
				expectTake(t, f, x, true, farm.Rejected)
				expectTake(t, f, x, false, farm.Rejected)
			}
			if got := f.Report(); got != (api.Clcw{}) {
				t.Fatalf("Report() = %+v", got)
			}
			if f.Clone() != nil {
				t.Fatal("Clone is not nil")
			}
		}
	}
	var zero farm.Farm
	zero.Take(api.TcFrame{Data: []byte{1}}, true)
	zero.Take(api.TcFrame{Bypass: true, Data: []byte{1}}, true)
	if zero != (farm.Farm{}) {
		t.Fatal("a zero value was changed")
	}
	// A receiving end of New is none of these, even if all its fields are 0.
	f := made(t, 0, 0, 0)
	expectTake(t, f, api.TcFrame{Data: []byte{1}}, true, farm.Delivered)
	if f.Clone() == nil {
		t.Fatal("a receiving end of New is taken for a zero value")
	}
}

// P16.2, the rule Memory: what is delivered shares no memory with the frame or with what is delivered later, and nothing that
// was passed in is retained.
func TestMemory(t *testing.T) {
	for _, free := range []bool{false, true} {
		f := made(t, craft, channel, 4)
		backing := []byte{1, 2, 3, 4, 5, 6, 7, 8}
		x := api.TcFrame{Bypass: free, Craft: craft, Channel: channel, Data: backing[2:4]}
		first, _ := f.Take(x, true)
		x.Seq = 1
		second, _ := f.Take(x, true)
		if !bytes.Equal(first, []byte{3, 4}) || !bytes.Equal(second, []byte{3, 4}) {
			t.Fatalf("% X and % X are delivered", first, second)
		}
		for i := range backing {
			backing[i] = 0xEE
		}
		if !bytes.Equal(first, []byte{3, 4}) || !bytes.Equal(second, []byte{3, 4}) {
			t.Fatalf("% X and % X share memory with the frame", first, second)
		}
		for _, b := range [][]byte{first, second} {
			all := b[:cap(b)]
			for i := range all {
				all[i] = 0x11
			}
			_ = append(b, 0x22, 0x22)
			if &b[0] == &first[0] && !bytes.Equal(second, []byte{3, 4}) {
				t.Fatalf("two results share memory: % X", second)
			}
		}
		if !bytes.Equal(backing, bytes.Repeat([]byte{0xEE}, 8)) {
			t.Fatalf("the frame shares memory with what was delivered: % X", backing)
		}
	}
	// Data that wait for room are not kept.
	f := made(t, craft, channel, 4)
	x := numbered(0)
	expectTake(t, f, x, false, farm.NoRoom)
	x.Data[0], x.Data[1] = 7, 8
	expectTake(t, f, x, true, farm.Delivered)
	// Nor are those of a directive.
	y := setNext(9)
	expectTake(t, f, y, true, farm.Control)
	y.Data[2] = 200
	expectState(t, f, "", 1, 9)
}

// The rule Determinism: the same calls have the same results, whatever is called on other receiving ends in between.
func TestIndependence(t *testing.T) {
	run := func(between func()) []api.Clcw {
		next := pseudo(7)
		f, m := made(t, craft, channel, 8), newModel(craft, channel, 8)
		var reports []api.Clcw
		for range 500 {
			expectModel(t, f, &m, nearby(next, &m), next()%3 > 0)
			reports = append(reports, f.Report())
			between()
		}
		return reports
	}
	other := made(t, craft, channel, 3)
	alone := run(func() {})
	mixed := run(func() {
		other.Take(numbered(other.Report().Next), true)
		other.Take(bypassing(1), true)
		other.Clone().Take(numbered(200), true)
	})
	if !slices.Equal(alone, mixed) {
		t.Fatal("the results depend on other receiving ends")
	}
}
