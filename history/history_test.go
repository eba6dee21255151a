package history_test

import (
	"math"
	"slices"
	"testing"

	"spacecraft/api"
	"spacecraft/history"
)

const (
	least    = math.MinInt
	greatest = math.MaxInt
)

// pseudo returns numbers that follow no simple rule but are the same in every run.
func pseudo() func() uint64 {
	x := uint64(0x9E3779B97F4A7C15)
	return func() uint64 {
		x ^= x << 13
		x ^= x >> 7
		x ^= x << 17
		return x >> 20
	}
}

// filled returns a history with the given capacity to which the values were added; none of them may be dropped.
func filled(t *testing.T, most int, values ...int) *history.History {
	t.Helper()
	h := history.New(most)
	for _, v := range values {
		expectKept(t, h, v)
	}
	return h
}

func expectAdd(t *testing.T, h *history.History, v, want int, wantOk bool) {
	t.Helper()
	if got, ok := h.Add(v); got != want || ok != wantOk {
		t.Fatalf("Add(%d) = %d, %t, want %d, %t", v, got, ok, want, wantOk)
	}
}

// expectKept adds a value that drops nothing.
func expectKept(t *testing.T, h *history.History, v int) {
	t.Helper()
	expectAdd(t, h, v, 0, false)
}

// expectDrop adds a value that drops the given one.
func expectDrop(t *testing.T, h *history.History, v, oldest int) {
	t.Helper()
	expectAdd(t, h, v, oldest, true)
}

func expectHas(t *testing.T, h *history.History, want bool, values ...int) {
	t.Helper()
	for _, v := range values {
		if got := h.Has(v); got != want {
			t.Fatalf("Has(%d) = %t", v, got)
		}
	}
}

// expectState checks Items, Len, Dropped and Has of the kept values, none of which changes anything.
func expectState(t *testing.T, h *history.History, dropped int, want ...int) {
	t.Helper()
	for range 2 {
		if got := h.Items(); !slices.Equal(got, want) {
			t.Fatalf("Items() = %v, want %v", got, want)
		}
		if got := h.Len(); got != len(want) {
			t.Fatalf("Len() = %d, want %d", got, len(want))
		}
		if got := h.Dropped(); got != dropped {
			t.Fatalf("Dropped() = %d, want %d", got, dropped)
		}
		expectHas(t, h, true, want...)
	}
}

// P9.1, P9.2: the chapter's examples.
func TestExamples(t *testing.T) {
	h := history.New(2)
	expectKept(t, h, 5)
	expectKept(t, h, 6)
	expectDrop(t, h, 7, 5)
	expectState(t, h, 1, 6, 7)
	expectHas(t, h, false, 5)

	expectDrop(t, history.New(0), 5, 5)

	none := history.New(-3)
	expectDrop(t, none, 1, 1)
	expectState(t, none, 1)
	large := history.New(1000)
	for i := range 256 {
		expectKept(t, large, i)
	}
	expectDrop(t, large, 256, 0)
}

// P9.1: every capacity is brought into the range from 0 to MaxItems, and just as many values are kept.
func TestCapacity(t *testing.T) {
	for _, c := range []struct{ most, capacity int }{
		{least, 0}, {least + 1, 0}, {-1 << 32, 0}, {-257, 0}, {-256, 0}, {-2, 0}, {-1, 0}, {0, 0}, {1, 1}, {2, 2}, {3, 3},
		{100, 100}, {254, 254}, {255, 255}, {256, 256}, {257, 256}, {258, 256}, {512, 256}, {1 << 16, 256}, {1 << 32, 256},
		{greatest - 1, 256}, {greatest, 256},
	} {
		h := history.New(c.most)
		if h == nil {
			t.Fatalf("New(%d) is nil", c.most)
		}
		expectState(t, h, 0)
		for i := range c.capacity {
			expectKept(t, h, i)
			if h.Len() != i+1 || h.Dropped() != 0 {
				t.Fatalf("New(%d): Len() = %d and Dropped() = %d after %d values", c.most, h.Len(), h.Dropped(), i+1)
			}
		}
		// The values are counted from 0, so that each one drops the one that came a capacity earlier.
		for i := range 3 {
			expectDrop(t, h, c.capacity+i, i)
			if h.Len() != c.capacity || h.Dropped() != i+1 {
				t.Fatalf("New(%d): Len() = %d and Dropped() = %d in the full history", c.most, h.Len(), h.Dropped())
			}
		}
	}
}

// P9.1, P9.2: every capacity from 0 to MaxItems: the value that fills the history, the next one, and many more.
func TestEveryCapacity(t *testing.T) {
	for most := range api.MaxItems + 1 {
		h := history.New(most)
		var want []int
		for i := range 3*most + 5 {
			want = append(want, 10*i)
			if len(want) <= most {
				expectKept(t, h, 10*i)
			} else {
				expectDrop(t, h, 10*i, want[0])
				want = want[1:]
			}
		}
		expectState(t, h, 2*most+5, want...)
	}
}

// P9.1: the histories of two calls of New have nothing to do with each other.
func TestTwoHistories(t *testing.T) {
	one, two := history.New(3), history.New(1)
	expectKept(t, one, 7)
	expectState(t, two, 0)
	expectKept(t, two, 8)
	expectDrop(t, two, 9, 8)
	expectHas(t, one, false, 8, 9)
	expectState(t, one, 0, 7)
	expectKept(t, one, 5)
	expectState(t, two, 1, 9)
	expectState(t, one, 0, 7, 5)
}

// P9.1, P9.2: a history that is not full, becomes full and has been full for long, looked at between all additions.
func TestFilling(t *testing.T) {
	h := history.New(3)
	expectState(t, h, 0)
	expectKept(t, h, 30)
	expectState(t, h, 0, 30)
	expectKept(t, h, 10)
	expectState(t, h, 0, 30, 10)
	expectKept(t, h, 20) // fills the history
	expectState(t, h, 0, 30, 10, 20)
	expectHas(t, h, false, 0, 40)
	expectDrop(t, h, 40, 30) // the next one
	expectState(t, h, 1, 10, 20, 40)
	expectHas(t, h, false, 30, 0)
	expectDrop(t, h, 5, 10)
	expectState(t, h, 2, 20, 40, 5)
	expectDrop(t, h, 30, 20) // a value that was dropped returns
	expectState(t, h, 3, 40, 5, 30)
	expectDrop(t, h, 1, 40)
	expectState(t, h, 4, 5, 30, 1)
	expectHas(t, h, false, 10, 20, 40)

	last := []int{5, 30, 1}
	for i := range 5000 {
		v := i*i%997 - 400
		expectDrop(t, h, v, last[0])
		last = append(last[1:], v)
		expectState(t, h, 5+i, last...)
	}
}

// P9.1, P9.2: with the capacity 0, each value is dropped itself, also one that was dropped before.
func TestNoCapacity(t *testing.T) {
	for _, most := range []int{0, -1, -256, least} {
		h := history.New(most)
		expectState(t, h, 0)
		for i, v := range []int{5, 5, 0, -1, least, greatest, 0, 5, 256, -256} {
			expectDrop(t, h, v, v)
			expectState(t, h, i+1)
			expectHas(t, h, false, v, 0, 5, i+1)
		}
		for i := range 1000 {
			expectDrop(t, h, i, i)
		}
		expectState(t, h, 1010)
	}
}

// P9.1, P9.2: with the capacity 1, each value drops its predecessor, also one that is equal to it.
func TestOneValue(t *testing.T) {
	h := filled(t, 1, 4)
	expectState(t, h, 0, 4)
	before := 4
	for i, v := range []int{5, 5, 0, 0, -1, least, greatest, greatest, least, 0, 4} {
		expectDrop(t, h, v, before)
		expectState(t, h, i+1, v)
		if before != v {
			expectHas(t, h, false, before)
		}
		before = v
	}
}

// P9.1, P9.2: many more values than twice the greatest capacity.
func TestFull(t *testing.T) {
	const all = api.MaxItems
	value := func(i int) int { return i*7919%100003 - 50000 }
	for _, most := range []int{all, all + 1, greatest} {
		h := history.New(most)
		for i := range all {
			expectKept(t, h, value(i))
		}
		for i := all; i < 5*all+17; i++ {
			expectDrop(t, h, value(i), value(i-all))
			if h.Has(value(i-all)) || !h.Has(value(i-all+1)) || !h.Has(value(i)) {
				t.Fatalf("Has is wrong after %d values", i+1)
			}
		}
		var want []int
		for i := 4*all + 17; i < 5*all+17; i++ {
			want = append(want, value(i))
		}
		expectState(t, h, 4*all+17, want...)
	}
}

// P9.1, P9.2: negative values, 0 and the ends of the integers are kept and dropped as others are.
func TestEdgeValues(t *testing.T) {
	values := []int{least, -1, 0, greatest, least + 1, greatest - 1, -1 << 32, 1 << 32, -1 << 31, 1<<31 - 1, 256, -256}
	h := filled(t, len(values), values...)
	expectState(t, h, 0, values...)
	expectHas(t, h, false, 1, -2, least+2, greatest-2, 1<<31, 1<<32-1, 255, -255)
	for i, v := range values {
		expectDrop(t, h, 1000+i, v)
		expectHas(t, h, false, v)
		expectHas(t, h, true, values[i+1:]...)
	}
	for i := range values {
		expectDrop(t, h, values[i], 1000+i)
	}
	expectState(t, h, 2*len(values), values...)
}

// P9.1: a dropped 0 is told from nothing that is dropped, and a kept 0 from an empty history.
func TestZero(t *testing.T) {
	h := history.New(2)
	expectHas(t, h, false, 0)
	expectKept(t, h, 0) // Add of 0 that drops nothing
	expectState(t, h, 0, 0)
	expectKept(t, h, 3)
	expectHas(t, h, true, 0)
	expectDrop(t, h, 4, 0) // the value 0 is dropped
	expectState(t, h, 1, 3, 4)
	expectHas(t, h, false, 0)
	expectDrop(t, h, 0, 3) // Add of 0 that drops another value
	expectState(t, h, 2, 4, 0)
	expectDrop(t, h, 0, 4)
	expectState(t, h, 3, 0, 0)
	expectDrop(t, h, 0, 0) // Add of 0 that drops a 0
	expectState(t, h, 4, 0, 0)
	for _, most := range []int{-1, 0, 1, 256} {
		expectHas(t, history.New(most), false, 0, 1, -1, least, greatest)
	}
	one := history.New(256)
	expectKept(t, one, 1)
	expectHas(t, one, false, 0)
}

// P9.1, P9.2: a value that occurs several times is kept until its last occurrence is dropped.
func TestSameValues(t *testing.T) {
	h := filled(t, 4, 5, 5, 6, 5)
	expectState(t, h, 0, 5, 5, 6, 5)
	expectDrop(t, h, 7, 5)
	expectState(t, h, 1, 5, 6, 5, 7)
	expectDrop(t, h, 7, 5)
	expectState(t, h, 2, 6, 5, 7, 7)
	expectHas(t, h, true, 5)
	expectDrop(t, h, 7, 6)
	expectState(t, h, 3, 5, 7, 7, 7)
	expectHas(t, h, false, 6)
	expectDrop(t, h, 7, 5)
	expectState(t, h, 4, 7, 7, 7, 7)
	expectHas(t, h, false, 5)
	expectDrop(t, h, 7, 7)
	expectState(t, h, 5, 7, 7, 7, 7)
	expectDrop(t, h, 5, 7)
	expectState(t, h, 6, 7, 7, 7, 5)

	// an earlier occurrence is dropped while a later one is kept, of each of the values at the edges too
	for _, v := range []int{0, -1, 1, least, greatest} {
		h := filled(t, 3, v, 40, v)
		expectDrop(t, h, 50, v)
		expectState(t, h, 1, 40, v, 50)
		expectDrop(t, h, v, 40)
		expectState(t, h, 2, v, 50, v)
		expectDrop(t, h, 60, v)
		expectDrop(t, h, 70, 50)
		expectDrop(t, h, 80, v)
		expectState(t, h, 5, 60, 70, 80)
		expectHas(t, h, false, v)
	}

	same := history.New(api.MaxItems)
	for i := range 1000 {
		if i < api.MaxItems {
			expectKept(t, same, -8)
		} else {
			expectDrop(t, same, -8, -8)
		}
	}
	if same.Len() != api.MaxItems || same.Dropped() != 1000-api.MaxItems || !same.Has(-8) {
		t.Fatal("equal values are not counted one by one")
	}
}

// P9.1: Has of values that are kept, at every place, that were dropped, and that were never added.
func TestHas(t *testing.T) {
	h := history.New(5)
	for i := range 40 {
		h.Add(3 * i)
		for j := range 40 {
			if got, want := h.Has(3*j), j <= i && j > i-5; got != want {
				t.Fatalf("Has(%d) = %t after the value %d", 3*j, got, 3*i)
			}
			expectHas(t, h, false, 3*j+1, 3*j+2, -3*j-3)
		}
	}
	expectState(t, h, 35, 105, 108, 111, 114, 117)
}

// P9.3: a clone has the same capacity, values and number of dropped values, and neither is changed by what is done to the
// other.
func TestClone(t *testing.T) {
	for _, c := range []struct {
		most    int
		values  []int
		dropped int
		kept    []int
	}{
		{3, nil, 0, nil},
		{3, []int{5}, 0, []int{5}},
		{3, []int{5, 6}, 0, []int{5, 6}},
		{3, []int{5, 6, 7}, 0, []int{5, 6, 7}},
		{3, []int{5, 6, 7, 8}, 1, []int{6, 7, 8}},
		{3, []int{5, 6, 7, 8, 9, 5, 6, 7}, 5, []int{5, 6, 7}},
		{1, []int{5, 6}, 1, []int{6}},
		{2, []int{0, 0, 0}, 1, []int{0, 0}},
	} {
		for _, swap := range []bool{false, true} {
			h := history.New(c.most)
			for _, v := range c.values {
				h.Add(v)
			}
			o := h.Clone()
			if o == nil || o == h {
				t.Fatal("Clone returned nil or its own history")
			}
			if swap {
				h, o = o, h
			}
			expectState(t, o, c.dropped, c.kept...)
			expectState(t, h, c.dropped, c.kept...)
			want := slices.Clone(c.kept)
			dropped := c.dropped
			for v := 100; v < 110; v++ {
				if len(want) < c.most {
					expectKept(t, h, v)
				} else {
					expectDrop(t, h, v, want[0])
					want, dropped = want[1:], dropped+1
				}
				want = append(want, v)
				expectState(t, h, dropped, want...)
				expectState(t, o, c.dropped, c.kept...)
				expectHas(t, o, false, v)
			}
			// Now the other one: it goes on where it was.
			other := slices.Clone(c.kept)
			for len(other) < c.most {
				expectKept(t, o, -1)
				other = append(other, -1)
			}
			expectState(t, o, c.dropped, other...)
			expectDrop(t, o, -2, other[0])
			expectState(t, o, c.dropped+1, append(other[1:], -2)...)
			expectHas(t, h, false, -1, -2)
			expectState(t, h, dropped, want...)
		}
	}
}

// P9.3: original and clone are changed in turn, so that each writes where the other might have its values.
func TestCloneInTurn(t *testing.T) {
	for _, start := range []int{0, 1, 2, 3, 4, 5, 9} {
		h := history.New(4)
		var one []int
		for i := range start {
			h.Add(i)
			one = append(one, i)
		}
		o := h.Clone()
		two := slices.Clone(one)
		for i := range 30 {
			h.Add(100 + i)
			one = append(one, 100+i)
			if i%3 != 0 {
				o.Add(-100 - i)
				two = append(two, -100-i)
			}
			expectState(t, h, max(len(one)-4, 0), one[max(len(one)-4, 0):]...)
			expectState(t, o, max(len(two)-4, 0), two[max(len(two)-4, 0):]...)
		}
	}
}

// P9.3: clones of histories of every size with every kind of capacity, and a clone of a clone.
func TestCloneSizes(t *testing.T) {
	for _, most := range []int{least, -1, 0, 1, 2, 255, 256, 257, greatest} {
		h := history.New(most)
		capacity := min(max(most, 0), 256)
		empty := h.Clone().Clone()
		expectState(t, empty, 0)
		for i := range capacity {
			expectKept(t, h, i)
			expectKept(t, empty, -i)
		}
		full := h.Clone().Clone()
		expectState(t, full, 0, h.Items()...)
		expectDrop(t, full, capacity, 0)
		expectDrop(t, empty, -capacity, 0)
		if h.Len() != capacity || h.Dropped() != 0 || full.Dropped() != 1 || full.Len() != capacity {
			t.Fatalf("New(%d): clones of the full history are wrong", most)
		}
		first := 0
		if capacity == 0 {
			first = 1000
		}
		expectDrop(t, h, 1000, first)
		if full.Has(1000) || empty.Has(1000) || h.Dropped() != 1 {
			t.Fatalf("New(%d): a clone has what was added to the original", most)
		}
	}
}

// P9.3: clones of a history without capacity count what they drop on their own.
func TestCloneNoCapacity(t *testing.T) {
	for _, most := range []int{0, -1, least} {
		h := history.New(most)
		expectDrop(t, h, 5, 5)
		o := h.Clone()
		expectState(t, o, 1)
		expectDrop(t, o, 6, 6)
		expectDrop(t, o, 7, 7)
		expectState(t, h, 1)
		expectState(t, o, 3)
		expectDrop(t, h, 8, 8)
		expectState(t, h, 2)
		expectState(t, o, 3)
		expectHas(t, h, false, 5, 6, 7, 8, 0)
		expectHas(t, o, false, 5, 6, 7, 8, 0)
	}
}

// P9.4: nil histories and zero values return zero values and change nothing, also the second time.
func TestNil(t *testing.T) {
	for _, h := range []*history.History{nil, {}, new(history.History)} {
		for range 2 {
			for _, v := range []int{0, 1, -1, 5, 256, least, greatest} {
				expectAdd(t, h, v, 0, false)
				expectHas(t, h, false, v)
				expectState(t, h, 0)
			}
			if h.Clone() != nil {
				t.Fatal("Clone is not nil")
			}
		}
	}
	// A history of New is none of these, even if it has no capacity.
	expectDrop(t, history.New(0), 5, 5)
	expectDrop(t, history.New(0).Clone(), 5, 5)
	if history.New(-1).Clone() == nil || history.New(0).Clone() == nil || history.New(1).Clone() == nil {
		t.Fatal("a history of New is taken for a zero value")
	}
}

// The rule Memory, for P9.1 and P9.3: what Items returned is neither changed by later calls nor the memory of the history
// or of another result.
func TestMemory(t *testing.T) {
	for _, extra := range []int{0, 1, 4, 7, 50} {
		h := history.New(4)
		for i := range extra {
			h.Add(-i)
		}
		for _, v := range []int{5, 6, 7} {
			h.Add(v)
		}
		want := h.Items()
		dropped := h.Dropped()
		o := h.Clone()
		first, second, third := h.Items(), h.Items(), o.Items()
		for i := range second {
			second[i] = 70 + i
		}
		third = append(third[:1], 80, 81, 82, 83, 84)
		second = append(second[:2], 90)
		if !slices.Equal(first, want) || !slices.Equal(second, []int{70, 71, 90}) || third[0] != want[0] {
			t.Fatalf("the results %v, %v and %v share memory", first, second, third)
		}
		expectState(t, h, dropped, want...)
		expectState(t, o, dropped, want...)
		for _, v := range []int{1, 2, 3} {
			h.Add(v)
		}
		if !slices.Equal(first, want) {
			t.Fatalf("what Items returned became %v", first)
		}
		kept := slices.Clone(h.Items())
		full := first[:cap(first)]
		for i := range full {
			full[i] = -9
		}
		expectState(t, h, extra+6-4, kept...)
		expectState(t, o, dropped, want...)
	}
	// what the empty history returned
	h := history.New(2)
	none := append(h.Items(), 7)
	expectState(t, h, 0)
	expectKept(t, h, 8)
	if none[0] != 7 {
		t.Fatal("the result of an empty history is its memory")
	}
	gone := history.New(0)
	expectDrop(t, gone, 5, 5)
	if none = gone.Items(); cap(none) > 0 {
		none[:1][0] = 9
	}
	expectDrop(t, gone, 6, 6)
	expectState(t, gone, 2)
}

// log is a history that forgets nothing: the values that were added, and how many of them are dropped.
type log struct {
	most  int
	added []int
}

func (l *log) dropped() int { return max(len(l.added)-l.most, 0) }

func (l *log) kept() []int { return l.added[l.dropped():] }

func (l *log) clone() *log { return &log{l.most, slices.Clone(l.added)} }

// expectLogged adds a value to a history and to its log, and checks everything that the history shows then.
func expectLogged(t *testing.T, h *history.History, l *log, v, other int) {
	t.Helper()
	before := l.dropped()
	l.added = append(l.added, v)
	if l.dropped() > before {
		expectDrop(t, h, v, l.added[before])
	} else {
		expectKept(t, h, v)
	}
	expectState(t, h, l.dropped(), l.kept()...)
	expectHas(t, h, slices.Contains(l.kept(), other), other)
}

// someNumber returns a number that follows no rule: mostly a small one, so that numbers recur, or one at the ends of the
// integers.
func someNumber(next func() uint64, small uint64) int {
	edges := []int{least, least + 1, -1 << 32, 1 << 32, greatest - 1, greatest}
	if next()%10 == 0 {
		return edges[next()%6]
	}
	return int(next()%small) - int(small/3)
}

// P9.1 to P9.3: sequences of calls that follow no rule, and clones that go ways of their own.
func TestAnyCalls(t *testing.T) {
	next := pseudo()
	for range 400 {
		most := int(next()%14) - 2
		h, l := history.New(most), &log{most: max(most, 0)}
		for range int(next() % 100) {
			expectLogged(t, h, l, someNumber(next, 15), someNumber(next, 15))
			if next()%20 == 0 {
				o, m := h.Clone(), l.clone()
				for range int(next() % 20) {
					expectLogged(t, o, m, someNumber(next, 15), someNumber(next, 15))
				}
				expectState(t, h, l.dropped(), l.kept()...)
				// Either of the two goes on.
				if next()%2 == 0 {
					h, l = o, m
				}
			}
		}
		expectState(t, h, l.dropped(), l.kept()...)
	}
}

// P9.1, P9.2: long sequences of calls on histories of nearly MaxItems values and more.
func TestManyCalls(t *testing.T) {
	next := pseudo()
	for _, most := range []int{255, 256, 257, greatest} {
		h, l := history.New(most), &log{most: min(most, 256)}
		for range 1500 {
			expectLogged(t, h, l, someNumber(next, 900), someNumber(next, 900))
		}
	}
}

// P9.1: the answers depend on nothing but the calls on the history.
func TestSameCalls(t *testing.T) {
	run := func() []int {
		next := pseudo()
		h := history.New(7)
		var seen []int
		for range 500 {
			oldest, ok := h.Add(someNumber(next, 12))
			if ok {
				seen = append(seen, oldest)
			}
			seen = append(seen, h.Items()...)
			seen = append(seen, h.Len(), h.Dropped())
		}
		return seen
	}
	if !slices.Equal(run(), run()) {
		t.Fatal("the same calls have different results")
	}
}
