package mux_test

import (
	"fmt"
	"math"
	"slices"
	"strings"
	"testing"

	"spacecraft/api"
	"spacecraft/mux"
)

const (
	least    = math.MinInt
	greatest = math.MaxInt
	// allIDs is how many channels there can be.
	allIDs = 8
)

// unknown are IDs that no channel can have.
func unknown() []int { return []int{least, -allIDs, -1, allIDs, allIDs + 1, 2 * allIDs, greatest} }

// wrongPriorities and wrongWeights are those that no channel can have.
func wrongPriorities() []int { return []int{least, -16, -1, 16, 17, greatest} }

func wrongWeights() []int { return []int{least, -100, -1, 0, 101, 102, greatest} }

// pseudo returns numbers that follow no simple rule but are the same in every run.
func pseudo(seed uint64) func() uint64 {
	x := seed*2 + 0x9E3779B97F4A7C15
	return func() uint64 {
		x ^= x << 13
		x ^= x >> 7
		x ^= x << 17
		return x >> 20
	}
}

// shuffle brings list into another order.
func shuffle[T any](next func() uint64, list []T) {
	for i := range list {
		j := i + int(next()%uint64(len(list)-i))
		list[i], list[j] = list[j], list[i]
	}
}

// orders calls do with every order of list.
func orders[T any](list []T, do func([]T)) {
	var extend func(head, tail []T)
	extend = func(head, tail []T) {
		if len(tail) == 0 {
			do(head)
		}
		for i := range tail {
			extend(append(slices.Clone(head), tail[i]), slices.Concat(tail[:i], tail[i+1:]))
		}
	}
	extend(nil, list)
}

// subset returns the elements of list that the bits of n say.
func subset[T any](list []T, n int) []T {
	var some []T
	for i, x := range list {
		if n>>i&1 == 1 {
			some = append(some, x)
		}
	}
	return some
}

func idsOf(l []api.Channel) []int {
	var ids []int
	for _, c := range l {
		ids = append(ids, c.ID)
	}
	return ids
}

// model is a multiplexer that keeps to the chapter's words.
type model struct {
	channels     []api.Channel
	credit, sent map[int]int
}

func newModel(l []api.Channel) *model {
	return &model{slices.Clone(l), map[int]int{}, map[int]int{}}
}

func (m *model) clone() *model {
	n := newModel(m.channels)
	for id := range allIDs {
		n.credit[id], n.sent[id] = m.credit[id], m.sent[id]
	}
	return n
}

// considered returns the channels that take part in a selection, by their IDs.
func (m *model) considered(ready []int) map[int]api.Channel {
	found := map[int]api.Channel{}
	for priority := range 16 {
		for _, c := range m.channels {
			if c.Priority == priority && slices.Contains(ready, c.ID) {
				found[c.ID] = c
			}
		}
		if len(found) > 0 {
			break
		}
	}
	return found
}

// next looks from the greatest ID to the smallest.
func (m *model) next(ready []int) (int, bool) {
	all := m.considered(ready)
	sum, selected := 0, -1
	for id := allIDs - 1; id >= 0; id-- {
		c, ok := all[id]
		if !ok {
			continue
		}
		m.credit[id] += c.Weight
		sum += c.Weight
		if selected < 0 || m.credit[id] >= m.credit[selected] {
			selected = id
		}
	}
	if selected < 0 {
		return 0, false
	}
	m.credit[selected] -= sum
	m.sent[selected]++
	return selected, true
}

// create returns a new multiplexer.
func create(t *testing.T, l []api.Channel) *mux.Mux {
	t.Helper()
	m, err := mux.New(l)
	if m == nil || err != api.OK {
		t.Fatalf("New(%v) is nil, or its error %d", l, err)
	}
	return m
}

// clone returns a copy of m.
func clone(t *testing.T, m *mux.Mux) *mux.Mux {
	t.Helper()
	c := m.Clone()
	if c == nil || c == m {
		t.Fatal("Clone() is nil or its own multiplexer")
	}
	return c
}

func expectError(t *testing.T, l []api.Channel, want api.Errno) {
	t.Helper()
	if m, err := mux.New(l); m != nil || err != want {
		t.Fatalf("New(%v) = %v, %d, want nil, %d", l, m, err, want)
	}
}

func expectNext(t *testing.T, m *mux.Mux, ready []int, want int) {
	t.Helper()
	if got, ok := m.Next(ready); got != want || !ok {
		t.Fatalf("Next(%v) = %d, %t, want %d, true", ready, got, ok, want)
	}
}

// expectEach checks that calls of Next with the same channels select those of want, one after the other.
func expectEach(t *testing.T, m *mux.Mux, ready []int, want ...int) {
	t.Helper()
	for _, id := range want {
		expectNext(t, m, ready, id)
	}
}

func expectNone(t *testing.T, m *mux.Mux, ready []int) {
	t.Helper()
	if got, ok := m.Next(ready); got != 0 || ok {
		t.Fatalf("Next(%v) = %d, %t, want 0, false", ready, got, ok)
	}
}

// expectSent checks what Sent says of the channels 0 and so on; those that want does not mention must have 0.
func expectSent(t *testing.T, m *mux.Mux, want ...int) {
	t.Helper()
	for id := range allIDs {
		n := 0
		if id < len(want) {
			n = want[id]
		}
		if got := m.Sent(id); got != n {
			t.Fatalf("Sent(%d) = %d, want %d", id, got, n)
		}
	}
	for _, id := range unknown() {
		if got := m.Sent(id); got != 0 {
			t.Fatalf("Sent(%d) = %d", id, got)
		}
	}
}

// play is a multiplexer with its model.
type play struct {
	m     *mux.Mux
	model *model
}

func start(t *testing.T, l []api.Channel) *play {
	t.Helper()
	p := &play{create(t, l), newModel(l)}
	p.expectSent(t)
	return p
}

func (p *play) clone(t *testing.T) *play {
	t.Helper()
	return &play{clone(t, p.m), p.model.clone()}
}

// next calls Next and checks what happens. It returns what Next does.
func (p *play) next(t *testing.T, ready []int) (int, bool) {
	t.Helper()
	want, ok := p.model.next(ready)
	if ok {
		expectNext(t, p.m, ready, want)
	} else {
		expectNone(t, p.m, ready)
	}
	return want, ok
}

func (p *play) expectSent(t *testing.T) {
	t.Helper()
	var want []int
	for id := range allIDs {
		want = append(want, p.model.sent[id])
	}
	expectSent(t, p.m, want...)
}

// expectState checks that p.m is as p.model: what Sent says, and, because the credits show only in what Next selects, what every
// two of the channels do next, on copies.
func (p *play) expectState(t *testing.T) {
	t.Helper()
	p.expectSent(t)
	for i, a := range p.model.channels {
		for _, b := range p.model.channels[:i] {
			if a.Priority != b.Priority {
				continue
			}
			q := p.clone(t)
			for range a.Weight + b.Weight {
				q.next(t, []int{a.ID, b.ID})
			}
		}
	}
	p.expectSent(t)
}

// someChannels returns n channels with the given numbers of priorities and of weights, with IDs in any order.
func someChannels(next func() uint64, n, priorities, weights int) []api.Channel {
	var l []api.Channel
	for id := range allIDs {
		l = append(l, api.Channel{ID: id, Priority: int(next()) % priorities, Weight: 1 + int(next())%weights})
	}
	shuffle(next, l)
	return l[:n]
}

// someReady returns IDs in any order, with repetitions and with unknown ones.
func someReady(next func() uint64) []int {
	var ready []int
	for range next() % 12 {
		id := int(next() % allIDs)
		if next()%8 == 0 {
			list := unknown()
			id = list[next()%uint64(len(list))]
		}
		ready = append(ready, id)
	}
	return ready
}

// P22.1, P22.2, P22.4: the chapter's examples.
func TestExamples(t *testing.T) {
	l := []api.Channel{{ID: 0, Priority: 3, Weight: 5}, {ID: 1, Priority: 3, Weight: 1}, {ID: 2, Priority: 3, Weight: 1}}
	m := create(t, l)
	expectEach(t, m, []int{0, 1, 2}, 0, 0, 1, 0, 2, 0, 0)
	expectSent(t, m, 5, 1, 1)
	expectEach(t, m, []int{0, 1, 2}, 0, 0, 1, 0, 2, 0, 0)
	expectSent(t, m, 10, 2, 2)

	m = create(t, append(l, api.Channel{ID: 4, Priority: 1, Weight: 1}))
	expectEach(t, m, []int{0, 1, 2, 4}, 4, 4, 4)
	expectEach(t, m, []int{0, 1, 2}, 0, 0, 1)
	expectEach(t, m, []int{0, 1, 2, 4}, 4, 4)
	expectEach(t, m, []int{0, 1, 2}, 0, 2, 0, 0)
	expectSent(t, m, 5, 1, 1, 0, 5)
}

// P22.2, P22.3: a play that is written out. Behind each call are the credits of the channels 1, 2 and 5.
func TestPlay(t *testing.T) {
	m := create(t, []api.Channel{
		{ID: 5, Priority: 2, Weight: 3}, {ID: 2, Priority: 2, Weight: 2}, {ID: 7, Priority: 0, Weight: 1},
		{ID: 1, Priority: 2, Weight: 2}, {ID: 4, Priority: 9, Weight: 100},
	})
	expectSent(t, m)
	expectNext(t, m, []int{1, 2, 5}, 5)    // 2 2 -4
	expectNext(t, m, []int{5, 2, 1}, 1)    // -3 4 -1
	expectNext(t, m, []int{5, 2}, 2)       // -3 1 2
	expectNext(t, m, []int{1}, 1)          // -3 1 2
	expectNext(t, m, []int{1, 2, 5, 7}, 7) // -3 1 2
	expectNext(t, m, []int{4}, 4)          // -3 1 2
	expectNone(t, m, []int{0, 3, 6})       // -3 1 2
	expectSent(t, m, 0, 2, 1, 0, 1, 1, 0, 1)
	expectNext(t, m, []int{1, 5}, 5)       // -1 1 0
	expectNext(t, m, []int{2, 5, 1, 4}, 2) // 1 -4 3
	expectNext(t, m, []int{4, 5, 2}, 5)    // 1 -2 1
	expectNext(t, m, []int{4, 1, 5}, 5)    // 3 -2 -1
	expectNext(t, m, []int{1, 2}, 1)       // 1 0 -1
	expectNone(t, m, nil)                  // 1 0 -1
	expectNext(t, m, []int{1, 2, 5}, 1)    // -4 2 2
	expectNext(t, m, []int{1, 2, 5}, 5)    // -2 4 -2
	expectNext(t, m, []int{1, 2, 5}, 2)    // 0 -1 1
	expectSent(t, m, 0, 4, 3, 0, 1, 5, 0, 1)
}

// P22.2: two channels with the greatest difference of weights.
func TestGreatAndSmall(t *testing.T) {
	for _, c := range []struct{ great, small int }{{0, 1}, {7, 6}, {1, 0}, {6, 7}} {
		m := create(t, []api.Channel{{ID: c.great, Priority: 15, Weight: 100}, {ID: c.small, Priority: 15, Weight: 1}})
		// After n calls that select the great one, the credits are -n and n, and the next call compares 100-n and n+1, which are
		// never equal. So the small one is selected when n is 50, and then the great one until both credits are 0 again.
		for range 3 {
			for n := range 101 {
				if n == 50 {
					expectNext(t, m, []int{0, 1, 6, 7}, c.small)
				} else {
					expectNext(t, m, []int{0, 1, 6, 7}, c.great)
				}
			}
		}
		if m.Sent(c.great) != 300 || m.Sent(c.small) != 3 {
			t.Fatalf("%v: selected %d and %d times", c, m.Sent(c.great), m.Sent(c.small))
		}
	}
}

// P22.1: every permitted ID, with the priorities and the weights at the ends of what is permitted.
func TestNewPermitted(t *testing.T) {
	for id := range allIDs {
		for _, priority := range []int{0, 1, 14, 15} {
			for _, weight := range []int{1, 2, 99, 100} {
				p := start(t, []api.Channel{{ID: id, Priority: priority, Weight: weight}})
				for _, other := range unknown() {
					p.next(t, []int{other})
				}
				for other := range allIDs {
					p.next(t, []int{other})
				}
				expectEach(t, p.m, []int{id}, id, id, id)
			}
		}
	}
}

// P22.1: every wrong ID, priority and weight, in a list of one and at every place of a longer one.
func TestNewArg(t *testing.T) {
	var wrong []api.Channel
	for _, id := range unknown() {
		wrong = append(wrong, api.Channel{ID: id, Priority: 3, Weight: 5})
	}
	for _, priority := range wrongPriorities() {
		wrong = append(wrong, api.Channel{ID: 5, Priority: priority, Weight: 5})
	}
	for _, weight := range wrongWeights() {
		wrong = append(wrong, api.Channel{ID: 5, Priority: 3, Weight: weight})
	}
	wrong = append(wrong, api.Channel{}, api.Channel{ID: -1, Priority: -1, Weight: -1}, api.Channel{ID: 8, Priority: 16, Weight: 101})
	right := []api.Channel{{ID: 1, Priority: 3, Weight: 5}, {ID: 0, Priority: 3, Weight: 5}, {ID: 2, Priority: 1, Weight: 1}}
	for _, c := range wrong {
		for at := range len(right) + 1 {
			for from := range at + 1 {
				expectError(t, slices.Insert(slices.Clone(right[from:]), at-from, c), api.ErrArg)
			}
		}
		expectError(t, []api.Channel{c}, api.ErrArg)
		expectError(t, []api.Channel{c, c}, api.ErrArg)
	}
}

// P22.1: an ID that occurs twice, beside each other and apart, with the same and with another priority and weight.
func TestNewTwice(t *testing.T) {
	for id := range allIDs {
		first := api.Channel{ID: id, Priority: 3, Weight: 5}
		for _, second := range []api.Channel{
			first, {ID: id, Priority: 0, Weight: 5}, {ID: id, Priority: 15, Weight: 5},
			{ID: id, Priority: 3, Weight: 1}, {ID: id, Priority: 3, Weight: 100}, {ID: id, Priority: 15, Weight: 1},
		} {
			a := api.Channel{ID: (id + 1) % allIDs, Priority: 3, Weight: 5}
			b := api.Channel{ID: (id + 7) % allIDs, Priority: 4, Weight: 6}
			expectError(t, []api.Channel{first, second}, api.ErrTwice)
			expectError(t, []api.Channel{first, second, a, b}, api.ErrTwice)
			expectError(t, []api.Channel{a, first, second, b}, api.ErrTwice)
			expectError(t, []api.Channel{a, b, first, second}, api.ErrTwice)
			expectError(t, []api.Channel{first, a, second, b}, api.ErrTwice)
			expectError(t, []api.Channel{a, first, b, second}, api.ErrTwice)
			expectError(t, []api.Channel{first, a, b, second}, api.ErrTwice)
			expectError(t, []api.Channel{first, second, second}, api.ErrTwice)
			for _, l := range [][]api.Channel{{first, a, b}, {a, second, b}, {b, a, second}} {
				start(t, l).expectState(t)
			}
		}
	}
}

// P22.1: if a channel has both errors, ErrArg is returned; if two channels have one, the first of them decides.
func TestNewFirstError(t *testing.T) {
	a := api.Channel{ID: 3, Priority: 3, Weight: 5}
	b := api.Channel{ID: 4, Priority: 3, Weight: 5}
	both := []api.Channel{{ID: 3, Priority: -1, Weight: 5}, {ID: 3, Priority: 16, Weight: 5}, {ID: 3, Priority: 3, Weight: 0}, {ID: 3, Priority: 3, Weight: 101}}
	for _, c := range both {
		expectError(t, []api.Channel{a, c}, api.ErrArg)
		expectError(t, []api.Channel{c, a}, api.ErrArg)
		expectError(t, []api.Channel{b, a, c}, api.ErrArg)
		expectError(t, []api.Channel{a, b, c}, api.ErrArg)
		expectError(t, []api.Channel{a, c, a}, api.ErrArg)
		expectError(t, []api.Channel{a, a, c}, api.ErrTwice)
		expectError(t, []api.Channel{a, b, b, c}, api.ErrTwice)
	}
	for _, wrong := range []api.Channel{
		{ID: -1, Priority: 3, Weight: 5}, {ID: 8, Priority: 3, Weight: 5}, {ID: 5, Priority: -1, Weight: 5},
		{ID: 5, Priority: 16, Weight: 5}, {ID: 5, Priority: 3, Weight: 0}, {ID: 5, Priority: 3, Weight: 101},
	} {
		expectError(t, []api.Channel{a, a, wrong}, api.ErrTwice)
		expectError(t, []api.Channel{a, b, a, wrong}, api.ErrTwice)
		expectError(t, []api.Channel{a, wrong, a}, api.ErrArg)
		expectError(t, []api.Channel{wrong, a, a}, api.ErrArg)
		expectError(t, []api.Channel{a, b, wrong, b}, api.ErrArg)
		expectError(t, []api.Channel{wrong, wrong}, api.ErrArg)
	}
}

// firstError is P22.1's word on the errors of l.
func firstError(l []api.Channel) api.Errno {
	for i, c := range l {
		if c.ID < 0 || c.ID > 7 || c.Priority < 0 || c.Priority > 15 || c.Weight < 1 || c.Weight > 100 {
			return api.ErrArg
		}
		if slices.Contains(idsOf(l[:i]), c.ID) {
			return api.ErrTwice
		}
	}
	return api.OK
}

// P22.1: lists without a rule, many with several errors.
func TestNewLists(t *testing.T) {
	next := pseudo(1)
	seen := map[api.Errno]int{}
	for range 20000 {
		var l []api.Channel
		for range next() % 6 {
			c := api.Channel{ID: int(next() % allIDs), Priority: int(next() % 16), Weight: 1 + int(next()%100)}
			switch list := []int{-1, 16, 101}; next() % 24 {
			case 0:
				c.ID = int(next()%10) - 1
			case 1:
				c.Priority = list[next()%2]
			case 2:
				c.Weight = list[next()%3]
			}
			l = append(l, c)
		}
		err := firstError(l)
		seen[err]++
		if err == api.OK {
			start(t, l).next(t, idsOf(l))
		} else {
			expectError(t, l, err)
		}
	}
	for _, err := range []api.Errno{api.OK, api.ErrArg, api.ErrTwice} {
		if seen[err] < 1000 {
			t.Fatalf("the error %d: %d times", err, seen[err])
		}
	}
}

// P22.1: a list without channels makes a multiplexer that never selects one.
func TestNewEmpty(t *testing.T) {
	for _, l := range [][]api.Channel{nil, {}} {
		m := create(t, l)
		for range 2 {
			for id := range allIDs {
				expectNone(t, m, []int{id})
			}
			expectNone(t, m, nil)
			expectNone(t, m, []int{})
			expectNone(t, m, unknown())
			expectNone(t, m, []int{0, 1, 2, 3, 4, 5, 6, 7})
			expectSent(t, m)
			m = clone(t, m)
		}
	}
}

// P22.1: all eight channels, and more, of which one must be wrong.
func TestNewAll(t *testing.T) {
	next := pseudo(2)
	for range 200 {
		l := someChannels(next, allIDs, 16, 100)
		p := start(t, l)
		for range 20 {
			p.next(t, idsOf(l))
		}
		p.expectSent(t)
		again := api.Channel{ID: int(next() % allIDs), Priority: int(next() % 16), Weight: 1 + int(next()%100)}
		at := int(next() % (allIDs + 1))
		expectError(t, slices.Insert(slices.Clone(l), at, again), api.ErrTwice)
		expectError(t, slices.Insert(slices.Clone(l), at, api.Channel{ID: 8, Weight: 1}), api.ErrArg)
		expectError(t, slices.Insert(slices.Clone(l), at, api.Channel{ID: -1, Weight: 1}), api.ErrArg)
		expectError(t, append(slices.Clone(l), again, api.Channel{ID: 8, Weight: 1}), api.ErrTwice)
		expectError(t, append(slices.Clone(l), api.Channel{ID: 8, Weight: 1}, again), api.ErrArg)
	}
}

// P22.1: all channels begin with the credit 0, in whatever order the list has them. Those with more weight are first, then those
// with smaller IDs.
func TestNewCredits(t *testing.T) {
	next := pseudo(3)
	for range 300 {
		l := someChannels(next, 1+int(next()%allIDs), 1, 100)
		ids := idsOf(l)
		m := create(t, l)
		for _, c := range l {
			for _, d := range l {
				first := min(c.ID, d.ID)
				if c.Weight > d.Weight {
					first = c.ID
				} else if d.Weight > c.Weight {
					first = d.ID
				}
				expectNext(t, clone(t, m), []int{c.ID, d.ID}, first)
			}
		}
		best := l[0]
		for _, c := range l {
			if c.Weight > best.Weight || c.Weight == best.Weight && c.ID < best.ID {
				best = c
			}
		}
		expectNext(t, m, ids, best.ID)
	}
}

// P22.2: nothing that is ready, or only what is unknown.
func TestNobodyReady(t *testing.T) {
	l := []api.Channel{{ID: 1, Priority: 2, Weight: 3}, {ID: 2, Priority: 2, Weight: 2}, {ID: 6, Priority: 0, Weight: 1}}
	p := start(t, l)
	for range 20 {
		expectNone(t, p.m, nil)
		expectNone(t, p.m, []int{})
		expectNone(t, p.m, unknown())
		expectNone(t, p.m, []int{0, 3, 4, 5, 7})
		expectNone(t, p.m, []int{0, 0, 0})
		for _, id := range append(unknown(), 0, 3, 4, 5, 7) {
			expectNone(t, p.m, []int{id})
			expectNone(t, p.m, []int{id, id})
		}
		// These calls have changed nothing that the model knows of.
		p.expectState(t)
		p.next(t, []int{1, 2})
	}
}

// P22.2: unknown IDs beside known ones are ignored.
func TestUnknownReady(t *testing.T) {
	l := []api.Channel{{ID: 1, Priority: 2, Weight: 3}, {ID: 2, Priority: 2, Weight: 2}, {ID: 6, Priority: 3, Weight: 1}}
	p, q := start(t, l), start(t, l)
	for i := range 100 {
		for n := range 8 {
			known := subset([]int{6, 1, 2}, n)
			p.next(t, known)
			for j, id := range append(unknown(), 0, 3, 4, 5, 7) {
				ready := slices.Insert(slices.Clone(known), (i+j)%(len(known)+1), id)
				q.clone(t).next(t, ready)
			}
			q.next(t, slices.Concat(unknown(), known, []int{0, 3, 4, 5, 7}))
		}
	}
	p.expectState(t)
	q.expectState(t)
}

// P22.2: the order of ready and repetitions in it do not matter.
func TestReadyOrder(t *testing.T) {
	l := []api.Channel{
		{ID: 3, Priority: 5, Weight: 2}, {ID: 0, Priority: 5, Weight: 2}, {ID: 7, Priority: 5, Weight: 1},
		{ID: 1, Priority: 6, Weight: 4}, {ID: 4, Priority: 6, Weight: 4},
	}
	p := start(t, l)
	for range 12 {
		for n := range 1 << len(l) {
			ids := subset(idsOf(l), n)
			orders(ids, func(ready []int) {
				q := p.clone(t)
				q.next(t, ready)
				q.expectSent(t)
				twice := slices.Concat(ready, ready)
				q.next(t, twice)
				q.next(t, ids)
			})
		}
		p.next(t, idsOf(l))
		p.next(t, []int{1, 4})
	}

	next := pseudo(4)
	for range 100 {
		l := someChannels(next, 1+int(next()%allIDs), 3, 9)
		a, b := create(t, l), create(t, l)
		for range 100 {
			ready := someReady(next)
			other := slices.Concat(ready, ready, ready)
			shuffle(next, other)
			if id, ok := a.Next(ready); ok {
				expectNext(t, b, other, id)
			} else {
				expectNone(t, b, other)
			}
		}
		for id := range allIDs {
			if a.Sent(id) != b.Sent(id) {
				t.Fatalf("Sent(%d) = %d and %d", id, a.Sent(id), b.Sent(id))
			}
		}
	}
}

// P22.2: a repeated ID adds the weight only once.
func TestReadyRepeated(t *testing.T) {
	m := create(t, []api.Channel{{ID: 0, Priority: 0, Weight: 1}, {ID: 1, Priority: 0, Weight: 2}})
	expectEach(t, m, []int{0, 0, 0, 1}, 1, 0, 1, 1, 0, 1)
	m = create(t, []api.Channel{{ID: 0, Priority: 0, Weight: 1}, {ID: 1, Priority: 0, Weight: 1}})
	expectEach(t, m, []int{1, 1, 0, 1}, 0, 1, 0, 1)
	expectEach(t, m, []int{1, 1}, 1, 1)
	expectEach(t, m, []int{0, 0, 0, 1, 1}, 0, 1, 0, 1)
}

// P22.2: of several channels with the greatest credit, the one with the smallest ID is selected, in whatever order the list has
// them.
func TestEqualCredits(t *testing.T) {
	l := []api.Channel{{ID: 7, Priority: 4, Weight: 6}, {ID: 2, Priority: 4, Weight: 6}, {ID: 5, Priority: 4, Weight: 6}, {ID: 3, Priority: 4, Weight: 6}}
	orders(l, func(l []api.Channel) {
		m := create(t, l)
		expectEach(t, m, idsOf(l), 2, 3, 5, 7, 2, 3, 5, 7, 2)
		expectEach(t, m, []int{7, 5}, 5, 7, 5)
		expectSent(t, m, 0, 0, 3, 2, 0, 4, 0, 3)
	})
	// All orders of eight IDs are too many.
	next := pseudo(5)
	all := []int{0, 1, 2, 3, 4, 5, 6, 7}
	for range 200 {
		var l []api.Channel
		for id := range allIDs {
			l = append(l, api.Channel{ID: id, Priority: 15, Weight: 1 + int(next()%100)})
			l[id].Weight = l[0].Weight
		}
		shuffle(next, l)
		m := create(t, l)
		for range 3 {
			expectEach(t, m, idsOf(l), all...)
		}
		expectSent(t, m, 3, 3, 3, 3, 3, 3, 3, 3)
	}
	// Credits that become equal on the way. Behind the calls, those of 0, 1 and 6 are 1 2 -3, then 2 -2 0, then (because 3 0 3 are
	// compared) -3 0 3, then -2 2 0, then -1 -2 3, then 0 0 0.
	orders([]api.Channel{{ID: 6, Priority: 0, Weight: 3}, {ID: 1, Priority: 0, Weight: 2}, {ID: 0, Priority: 0, Weight: 1}}, func(l []api.Channel) {
		m := create(t, l)
		expectEach(t, m, idsOf(l), 6, 1, 0, 6, 1, 6)
	})
}

// P22.2: channels of the smallest priority that is ready, and no others, are selected, whatever the weights are.
func TestPriorities(t *testing.T) {
	for high := range 16 {
		for low := high + 1; low < 16; low++ {
			for _, ids := range [][]int{{0, 1, 2, 3}, {3, 2, 1, 0}, {2, 0, 3, 1}} {
				p := start(t, []api.Channel{
					{ID: ids[0], Priority: low, Weight: 100}, {ID: ids[1], Priority: high, Weight: 1},
					{ID: ids[2], Priority: low, Weight: 100}, {ID: ids[3], Priority: high, Weight: 1},
				})
				for range 4 {
					id, _ := p.next(t, ids)
					if id != ids[1] && id != ids[3] {
						t.Fatalf("the priority of %d is %d", id, low)
					}
				}
				expectNext(t, p.m, []int{ids[0], ids[1]}, ids[1])
				expectNext(t, p.m, []int{ids[2], ids[0]}, min(ids[0], ids[2]))
				expectNext(t, p.m, []int{ids[2], ids[0]}, max(ids[0], ids[2]))
				expectNext(t, p.m, []int{ids[2], ids[3]}, ids[3])
			}
		}
	}
	// A priority for each channel: every one that becomes ready has a smaller one than those before.
	for odd := range 2 {
		var l []api.Channel
		var ready []int
		for id := range allIDs {
			l = append(l, api.Channel{ID: id, Priority: 14 - 2*id + odd, Weight: 100 - id*12})
		}
		m := create(t, l)
		for id := range allIDs {
			ready = append(ready, id)
			expectEach(t, m, ready, id, id)
		}
	}
}

// P22.2: the credits of channels of another priority remain as they are, in the middle of their round.
func TestOtherPriority(t *testing.T) {
	l := []api.Channel{
		{ID: 0, Priority: 3, Weight: 5}, {ID: 1, Priority: 3, Weight: 1}, {ID: 2, Priority: 3, Weight: 1},
		{ID: 3, Priority: 1, Weight: 2}, {ID: 4, Priority: 1, Weight: 1}, {ID: 5, Priority: 8, Weight: 100},
	}
	low, high := []int{0, 0, 1, 0, 2, 0, 0}, []int{3, 4, 3}
	for between := range 8 {
		m := create(t, l)
		i := 0
		for range 3 {
			for _, id := range low {
				expectNext(t, m, []int{0, 1, 2, 5}, id)
				for range between {
					expectNext(t, m, []int{0, 1, 2, 3, 4, 5}, high[i%3])
					i++
				}
				expectEach(t, m, []int{5}, 5, 5)
			}
		}
	}
}

// P22.2: the credits of channels that are not ready remain as they are. Behind each line are the credits.
func TestNotReady(t *testing.T) {
	l := []api.Channel{{ID: 0, Priority: 3, Weight: 2}, {ID: 1, Priority: 3, Weight: 2}, {ID: 2, Priority: 3, Weight: 2}, {ID: 3, Priority: 3, Weight: 2}}
	m := create(t, l)
	expectEach(t, m, []int{0, 1, 2, 3}, 0)                // -6 2 2 2
	expectEach(t, m, []int{0}, 0, 0, 0, 0, 0)             // a channel alone keeps its credit, too
	expectEach(t, m, []int{0, 1}, 1, 1, 0, 1, 0, 1, 0, 1) // -2 -2 2 2
	expectEach(t, m, []int{3, 2}, 2, 3, 2, 3, 2)          // -2 -2 0 4
	expectEach(t, m, []int{2}, 2)                         // -2 -2 0 4
	expectEach(t, m, []int{0, 1, 2, 3}, 3, 2, 0, 1, 3)    // -2 -2 0 4 behind the fourth of these calls
	expectSent(t, m, 10, 6, 5, 4)
}

// P22.2: one channel with changing others against it.
func TestAgainstOthers(t *testing.T) {
	next := pseudo(6)
	for range 50 {
		l := someChannels(next, allIDs, 1, 100)
		p := start(t, l)
		for range 20 {
			a, b := l[next()%allIDs].ID, l[next()%allIDs].ID
			for range 1 + next()%10 {
				p.next(t, []int{a, b})
			}
			p.expectSent(t)
		}
		p.expectState(t)
	}
}

// P22.3: each channel has a count of its own, which is the number of calls that have returned it.
func TestSent(t *testing.T) {
	next := pseudo(7)
	for range 100 {
		l := someChannels(next, int(next()%(allIDs+1)), 3, 10)
		m := create(t, l)
		expectSent(t, m)
		var counts [allIDs]int
		for range 200 {
			if id, ok := m.Next(someReady(next)); ok {
				counts[id]++
			}
			expectSent(t, m, counts[:]...)
		}
		expectNone(t, m, unknown())
		expectSent(t, m, counts[:]...)
	}

	// A channel that is never selected, and one that is not there.
	m := create(t, []api.Channel{{ID: 6, Priority: 1, Weight: 1}, {ID: 5, Priority: 2, Weight: 100}, {ID: 0, Priority: 3, Weight: 1}})
	for i := range 5000 {
		expectSent(t, m, 0, 0, 0, 0, 0, 0, i)
		expectNext(t, m, []int{0, 5, 6}, 6)
	}
	expectNext(t, m, []int{5, 0}, 5)
	expectSent(t, m, 0, 0, 0, 0, 0, 1, 5000)
}

// expectSequences makes every sequence of the given number of calls on copies of p.
func expectSequences(t *testing.T, p *play, calls int) {
	t.Helper()
	p.expectSent(t)
	if calls == 0 {
		p.expectState(t)
		return
	}
	ids := idsOf(p.model.channels)
	for n := range 1 << len(ids) {
		q := p.clone(t)
		q.next(t, subset(ids, n))
		expectSequences(t, q, calls-1)
	}
	p.expectSent(t)
}

// P22.2, P22.3: every sequence of a few calls with a few channels. Each call is made on a copy, so that all that follow it begin
// in the same state.
func TestEverySequence(t *testing.T) {
	weights := []int{1, 2, 3}
	for _, a := range weights {
		for _, b := range weights {
			expectSequences(t, start(t, []api.Channel{{ID: 4, Priority: 7, Weight: a}, {ID: 1, Priority: 7, Weight: b}}), 6)
			for _, c := range weights {
				for _, priority := range []int{6, 7, 8} {
					l := []api.Channel{{ID: 2, Priority: 7, Weight: a}, {ID: 0, Priority: priority, Weight: b}, {ID: 5, Priority: 7, Weight: c}}
					expectSequences(t, start(t, l), 3)
				}
			}
		}
	}
	l := []api.Channel{{ID: 3, Priority: 0, Weight: 2}, {ID: 2, Priority: 0, Weight: 1}, {ID: 7, Priority: 0, Weight: 4}}
	expectSequences(t, start(t, l), 5)
	l = []api.Channel{{ID: 1, Priority: 0, Weight: 2}, {ID: 6, Priority: 1, Weight: 5}, {ID: 7, Priority: 0, Weight: 2}, {ID: 0, Priority: 1, Weight: 3}}
	expectSequences(t, start(t, l), 3)
}

// P22.2, P22.3: plays without a rule, with copies that go on.
func TestPlays(t *testing.T) {
	next := pseudo(8)
	for i := range 400 {
		weights := 100
		if i%2 == 0 {
			weights = 4
		}
		p := start(t, someChannels(next, int(next()%(allIDs+1)), 1+i%5, weights))
		var early *play
		for j := range 150 {
			p.next(t, someReady(next))
			if next()%8 == 0 {
				p.expectSent(t)
			}
			if j == 70 {
				early = p.clone(t)
			}
		}
		for range 50 {
			early.next(t, someReady(next))
		}
		p.expectState(t)
		early.expectState(t)
	}
}

// expectWindows checks P22.4 for always the same channels, over three times the sum of the weights. The IDs of ready must be
// those of channels of l.
func expectWindows(t *testing.T, m *mux.Mux, l []api.Channel, ready []int) {
	t.Helper()
	smallest := 15
	for _, c := range l {
		if slices.Contains(ready, c.ID) {
			smallest = min(smallest, c.Priority)
		}
	}
	sum := 0
	var want, counts [allIDs]int
	for _, c := range l {
		if slices.Contains(ready, c.ID) && c.Priority == smallest {
			want[c.ID] = c.Weight
			sum += c.Weight
		}
	}
	var selected []int
	for i := range 3 * sum {
		id, ok := m.Next(ready)
		if !ok || id < 0 || id >= allIDs {
			t.Fatalf("Next(%v) = %d, %t", ready, id, ok)
		}
		selected = append(selected, id)
		counts[id]++
		if i >= sum {
			counts[selected[i-sum]]--
		}
		if i >= sum-1 && counts != want {
			t.Fatalf("New(%v): of %d calls with %v until the call %d, the channels are selected %v times", l, sum, ready, i, counts)
		}
	}
}

// P22.4: every window, for all small weights of up to four channels, alone and with others.
func TestWindowsOfSmallWeights(t *testing.T) {
	for n := range 256 {
		l := []api.Channel{
			{ID: 6, Priority: 9, Weight: 1 + n%4}, {ID: 1, Priority: 9, Weight: 1 + n/4%4},
			{ID: 0, Priority: 9, Weight: 1 + n/16%4}, {ID: 3, Priority: 9, Weight: 1 + n/64%4},
		}
		for some := 1; some < 16; some++ {
			ready := subset([]int{6, 1, 0, 3}, some)
			expectWindows(t, create(t, l), l, ready)
			more := append(slices.Clone(l), api.Channel{ID: 2, Priority: 10, Weight: 9}, api.Channel{ID: 4, Priority: 8, Weight: 2})
			expectWindows(t, create(t, more), more, ready)
			expectWindows(t, create(t, more), more, append(ready, 2))
		}
	}
}

// P22.4: every window, for channels without a rule.
func TestWindows(t *testing.T) {
	next := pseudo(9)
	for i := range 500 {
		l := someChannels(next, 1+int(next()%allIDs), 1+i%4, 100)
		ready := subset(idsOf(l), 1+int(next())%(1<<len(l)-1))
		expectWindows(t, create(t, l), l, ready)
	}
	for n := 1; n <= allIDs; n++ {
		for _, weight := range []int{1, 2, 50, 99, 100} {
			l := someChannels(next, n, 1, 1)
			for i := range l {
				l[i].Weight = weight
			}
			expectWindows(t, create(t, l), l, idsOf(l))
			l[0].Weight = 1
			expectWindows(t, create(t, l), l, idsOf(l))
			l[0].Weight = 100
			expectWindows(t, create(t, l), l, idsOf(l))
		}
	}
}

// P22.2, P22.4: a priority whose credits are as they were in the beginning begins again, whatever others have done.
func TestWindowsAfterOthers(t *testing.T) {
	next := pseudo(10)
	for range 200 {
		l := someChannels(next, allIDs, 2, 12)
		var low, high []int
		for _, c := range l {
			if c.Priority == 0 {
				high = append(high, c.ID)
			} else {
				low = append(low, c.ID)
			}
		}
		if len(low) == 0 || len(high) == 0 {
			continue
		}
		m := create(t, l)
		for range 20 {
			m.Next(subset(high, 1+int(next())%(1<<len(high)-1)))
			m.Next(nil)
		}
		expectWindows(t, clone(t, m), l, low)
		expectWindows(t, m, l, subset(low, 1+int(next())%(1<<len(low)-1)))

		m = create(t, l)
		for range 20 {
			m.Next(subset(low, 1+int(next())%(1<<len(low)-1)))
		}
		expectWindows(t, m, l, idsOf(l))
	}
}

// The rule Objects: a copy that is made before the first call, and its original, go on independently.
func TestCloneFirst(t *testing.T) {
	for _, swap := range []bool{false, true} {
		m := create(t, []api.Channel{{ID: 0, Priority: 3, Weight: 5}, {ID: 1, Priority: 3, Weight: 1}, {ID: 2, Priority: 3, Weight: 1}})
		c := clone(t, m)
		if swap {
			m, c = c, m
		}
		expectEach(t, m, []int{0, 1, 2}, 0, 0, 1)
		expectSent(t, c)
		expectEach(t, c, []int{0, 1, 2}, 0, 0, 1, 0, 2, 0, 0)
		expectSent(t, m, 2, 1)
		expectEach(t, m, []int{0, 1, 2}, 0, 2, 0, 0)
		expectEach(t, c, []int{1, 2}, 1, 2)
		expectSent(t, m, 5, 1, 1)
		expectSent(t, c, 5, 2, 2)
	}
}

// The rule Objects: a copy in the middle of a play has the channels, the credits and the counts of its original.
func TestClone(t *testing.T) {
	for _, swap := range []bool{false, true} {
		m := create(t, []api.Channel{{ID: 0, Priority: 3, Weight: 5}, {ID: 1, Priority: 3, Weight: 1}, {ID: 2, Priority: 3, Weight: 1}, {ID: 7, Priority: 1, Weight: 9}})
		expectEach(t, m, []int{0, 1, 2}, 0, 0, 1)
		expectEach(t, m, []int{0, 1, 2, 7}, 7)
		c := clone(t, m)
		if swap {
			m, c = c, m
		}
		expectSent(t, c, 2, 1, 0, 0, 0, 0, 0, 1)
		expectEach(t, m, []int{0, 1, 2}, 0, 2, 0, 0, 0, 0)
		expectEach(t, m, []int{7}, 7, 7)
		expectSent(t, c, 2, 1, 0, 0, 0, 0, 0, 1)
		expectEach(t, c, []int{0, 1, 2}, 0, 2)
		expectSent(t, m, 7, 1, 1, 0, 0, 0, 0, 3)
		expectEach(t, m, []int{0, 1, 2}, 1, 0, 2)
		expectEach(t, c, []int{0, 1, 2}, 0, 0)
		expectSent(t, c, 5, 1, 1, 0, 0, 0, 0, 1)
		expectSent(t, m, 8, 2, 2, 0, 0, 0, 0, 3)
	}
}

// The rule Objects: a copy and its original, and copies of both, in turns.
func TestClonesInTurn(t *testing.T) {
	next := pseudo(11)
	for range 60 {
		all := []*play{start(t, someChannels(next, 1+int(next()%allIDs), 3, 12))}
		for i := range 120 {
			all[next()%uint64(len(all))].next(t, someReady(next))
			if i%15 == 0 {
				all = append(all, all[next()%uint64(len(all))].clone(t))
			}
			for _, q := range all {
				q.expectSent(t)
			}
		}
		for _, q := range all {
			q.expectState(t)
		}
	}
}

// expectNothing checks that nothing can be done with m.
func expectNothing(t *testing.T, m *mux.Mux) {
	t.Helper()
	for range 2 {
		expectNone(t, m, nil)
		expectNone(t, m, unknown())
		expectNone(t, m, []int{0, 1, 2, 3, 4, 5, 6, 7})
		for id := range allIDs {
			expectNone(t, m, []int{id})
		}
		expectSent(t, m)
		if m.Clone() != nil {
			t.Fatal("Clone() is not nil")
		}
	}
}

// The rule Nil objects: a nil pointer.
func TestNilMux(t *testing.T) {
	expectNothing(t, nil)
	var m *mux.Mux
	expectNothing(t, m.Clone())
}

// The rule Nil objects: a multiplexer that New did not return.
func TestZeroMux(t *testing.T) {
	var m mux.Mux
	expectNothing(t, &m)
	expectNothing(t, new(mux.Mux))
}

// The rule Memory: New neither modifies the list nor keeps it.
func TestListMemory(t *testing.T) {
	l := []api.Channel{{ID: 7, Priority: 3, Weight: 5}, {ID: 4, Priority: 1, Weight: 2}, {ID: 1, Priority: 3, Weight: 1}, {ID: 0, Priority: 3, Weight: 1}}
	room := append(slices.Clone(l), api.Channel{ID: 3, Priority: 9, Weight: 9}, api.Channel{ID: 3, Priority: 9, Weight: 9})
	kept := slices.Clone(room)
	list := room[:len(l)]
	p := &play{create(t, list), newModel(l)}
	p.next(t, idsOf(l))
	p.next(t, []int{7, 1, 0})
	if !slices.Equal(room, kept) {
		t.Fatalf("the list has become %v", room)
	}
	for i := range room {
		room[i] = api.Channel{ID: 7 - i, Priority: 15 - i, Weight: 100 - i}
	}
	changed := slices.Clone(room)
	p.expectState(t)
	for n := range 200 {
		p.next(t, subset(idsOf(l), n%16))
	}
	p.expectState(t)
	if !slices.Equal(room, changed) {
		t.Fatalf("the list has become %v", room)
	}
}

// The rule Memory: with an error, too, the list remains as it is.
func TestWrongListMemory(t *testing.T) {
	for _, last := range []api.Channel{{ID: 4, Priority: 1, Weight: 2}, {ID: 8, Priority: 1, Weight: 2}, {ID: 0, Priority: 16}, {}} {
		l := []api.Channel{{ID: 7, Priority: 3, Weight: 5}, {ID: 4, Priority: 1, Weight: 2}, {ID: 1, Priority: 3, Weight: 1}, last}
		kept := slices.Clone(l)
		expectError(t, l, firstError(kept))
		if !slices.Equal(l, kept) {
			t.Fatalf("the list has become %v", l)
		}
	}
}

// The rule Memory: Next neither modifies ready nor keeps it.
func TestReadyMemory(t *testing.T) {
	next := pseudo(12)
	for range 100 {
		p := start(t, someChannels(next, 1+int(next()%allIDs), 3, 12))
		for range 20 {
			room := append(someReady(next), 5, 3, 5)
			kept := slices.Clone(room)
			p.next(t, room[:len(room)-3])
			if !slices.Equal(room, kept) {
				t.Fatalf("%v has become %v", kept, room)
			}
			for i := range room {
				room[i] = int(next() % allIDs)
			}
			changed := slices.Clone(room)
			p.next(t, kept)
			if !slices.Equal(room, changed) {
				t.Fatalf("%v has become %v", changed, room)
			}
		}
		p.expectState(t)
	}
}

// The rule Objects: multiplexers of the same list have nothing in common.
func TestTwoOfOneList(t *testing.T) {
	l := []api.Channel{{ID: 0, Priority: 3, Weight: 5}, {ID: 1, Priority: 3, Weight: 1}, {ID: 2, Priority: 3, Weight: 1}}
	p, q := start(t, l), start(t, l)
	for range 3 {
		p.next(t, []int{0, 1, 2})
		p.next(t, []int{1, 2})
		q.expectState(t)
	}
	q.next(t, []int{0, 1, 2})
	p.expectState(t)
	q.expectState(t)
}

// The rule Determinism: the answers depend on nothing but the list and the calls.
func TestSameCalls(t *testing.T) {
	all := func() string {
		next := pseudo(13)
		var seen strings.Builder
		m := create(t, someChannels(next, allIDs, 3, 100))
		for range 2000 {
			id, ok := m.Next(someReady(next))
			fmt.Fprintln(&seen, id, ok, m.Sent(id))
		}
		return seen.String()
	}
	if all() != all() {
		t.Fatal("the same calls have different results")
	}
}
