package queue_test

import (
	"math"
	"slices"
	"testing"

	"spacecraft/api"
	"spacecraft/queue"
)

const (
	least    = math.MinInt
	greatest = math.MaxInt
)

// pair is an item with the priority with which it is pushed.
type pair struct{ priority, item int }

// pseudo returns numbers that follow no simple rule but are the same in every run.
func pseudo() func() uint64 {
	x := uint64(0x9E3779B97F4A7C15)
	return func() uint64 {
		x ^= x << 13
		x ^= x >> 7
		x ^= x << 17
		return x >> 20
	}
}

// pushed returns a queue with the given capacity into which the pairs were pushed, each with the result OK.
func pushed(t *testing.T, most int, pairs []pair) *queue.Queue {
	t.Helper()
	q := queue.New(most)
	for _, p := range pairs {
		expectPush(t, q, p.priority, p.item, api.OK)
	}
	return q
}

func expectPush(t *testing.T, q *queue.Queue, priority, item int, want api.Errno) {
	t.Helper()
	if got := q.Push(priority, item); got != want {
		t.Fatalf("Push(%d, %d) = %d, want %d", priority, item, got, want)
	}
}

func expectPop(t *testing.T, q *queue.Queue, want int, wantOk bool) {
	t.Helper()
	if got, ok := q.Pop(); got != want || ok != wantOk {
		t.Fatalf("Pop() = %d, %t, want %d, %t", got, ok, want, wantOk)
	}
}

func expectPeek(t *testing.T, q *queue.Queue, want int, wantOk bool) {
	t.Helper()
	if got, ok := q.Peek(); got != want || ok != wantOk {
		t.Fatalf("Peek() = %d, %t, want %d, %t", got, ok, want, wantOk)
	}
}

func expectRemove(t *testing.T, q *queue.Queue, item int, want bool) {
	t.Helper()
	if got := q.Remove(item); got != want {
		t.Fatalf("Remove(%d) = %t", item, got)
	}
}

// expectItems checks Items, Len and Peek, none of which changes anything.
func expectItems(t *testing.T, q *queue.Queue, want ...int) {
	t.Helper()
	for range 2 {
		if got := q.Items(); !slices.Equal(got, want) {
			t.Fatalf("Items() = %v, want %v", got, want)
		}
		if got := q.Len(); got != len(want) {
			t.Fatalf("Len() = %d, want %d", got, len(want))
		}
		if len(want) == 0 {
			expectPeek(t, q, 0, false)
		} else {
			expectPeek(t, q, want[0], true)
		}
	}
}

// expectPops checks that just the given items leave, in their order, and that Items and Peek announce each of them.
func expectPops(t *testing.T, q *queue.Queue, want ...int) {
	t.Helper()
	for i, item := range want {
		expectItems(t, q, want[i:]...)
		expectPop(t, q, item, true)
	}
	expectItems(t, q)
	expectPop(t, q, 0, false)
	expectItems(t, q)
}

// P8.2, P8.3: the example of the chapter.
func TestExample(t *testing.T) {
	q := pushed(t, 10, []pair{{5, 1}, {3, 2}, {5, 3}, {3, 4}})
	expectItems(t, q, 2, 4, 1, 3)
	expectPush(t, q, 9, 1, api.ErrTwice)
	expectItems(t, q, 2, 4, 1, 3)
	expectPop(t, q, 2, true)
	expectItems(t, q, 4, 1, 3)
}

// P8.1: every capacity is brought into the range from 0 to MaxItems, and just as many items can be pushed.
func TestCapacity(t *testing.T) {
	for _, c := range []struct{ most, capacity int }{
		{least, 0}, {least + 1, 0}, {-257, 0}, {-256, 0}, {-2, 0}, {-1, 0}, {0, 0}, {1, 1}, {2, 2}, {3, 3}, {100, 100},
		{254, 254}, {255, 255}, {256, 256}, {257, 256}, {258, 256}, {512, 256}, {1 << 16, 256}, {1 << 32, 256},
		{greatest - 1, 256}, {greatest, 256},
	} {
		q := queue.New(c.most)
		if q == nil {
			t.Fatalf("New(%d) is nil", c.most)
		}
		expectItems(t, q)
		for i := range c.capacity {
			expectPush(t, q, i%7, i, api.OK)
			if got := q.Len(); got != i+1 {
				t.Fatalf("New(%d): Len() = %d after %d items", c.most, got, i+1)
			}
		}
		expectPush(t, q, 3, -1, api.ErrFull)
		if got := q.Len(); got != c.capacity {
			t.Fatalf("New(%d): Len() = %d in the full queue", c.most, got)
		}
	}
}

// P8.1: every capacity from 0 to MaxItems, with its clone.
func TestEveryCapacity(t *testing.T) {
	for most := range api.MaxItems + 1 {
		q := queue.New(most)
		for i := range most {
			expectPush(t, q, 0, i, api.OK)
		}
		expectPush(t, q, 0, most, api.ErrFull)
		expectPush(t, q.Clone(), 0, most, api.ErrFull)
		if most > 0 {
			expectPop(t, q, 0, true)
			expectPush(t, q.Clone(), 0, most, api.OK)
			expectPush(t, q, 0, most, api.OK)
		}
	}
}

// P8.1: the queues of two calls of New have nothing to do with each other.
func TestTwoQueues(t *testing.T) {
	one, two := queue.New(3), queue.New(1)
	expectPush(t, one, 2, 7, api.OK)
	expectItems(t, two)
	expectPush(t, two, 1, 7, api.OK)
	expectPush(t, one, 1, 8, api.OK)
	expectPush(t, two, 1, 8, api.ErrFull)
	expectItems(t, one, 8, 7)
	expectItems(t, two, 7)
}

// P8.2, P8.3, P8.5: the order in which items leave, written out.
func TestOrder(t *testing.T) {
	for _, c := range []struct {
		pairs []pair
		want  []int
	}{
		{nil, nil},
		{[]pair{{4, 9}}, []int{9}},
		// ascending, descending and mixed priorities
		{[]pair{{1, 10}, {2, 20}, {3, 30}, {4, 40}}, []int{10, 20, 30, 40}},
		{[]pair{{4, 40}, {3, 30}, {2, 20}, {1, 10}}, []int{10, 20, 30, 40}},
		{[]pair{{3, 30}, {1, 10}, {4, 40}, {2, 20}}, []int{10, 20, 30, 40}},
		{[]pair{{2, 20}, {5, 50}, {3, 30}, {1, 10}, {4, 40}}, []int{10, 20, 30, 40, 50}},
		// the items themselves have no part in the order
		{[]pair{{1, 40}, {2, 30}, {3, 20}, {4, 10}}, []int{40, 30, 20, 10}},
		{[]pair{{1, 4}, {1, 3}, {1, 2}, {1, 1}}, []int{4, 3, 2, 1}},
		{[]pair{{1, 2}, {1, 4}, {1, 1}, {1, 3}}, []int{2, 4, 1, 3}},
		{[]pair{{1, 1}, {1, 2}, {1, 3}, {1, 4}}, []int{1, 2, 3, 4}},
		// equal priorities between lower and higher ones
		{[]pair{{5, 51}, {1, 11}, {5, 52}, {9, 91}, {5, 53}}, []int{11, 51, 52, 53, 91}},
		{[]pair{{9, 91}, {5, 53}, {1, 11}, {5, 52}, {9, 92}, {5, 51}, {1, 12}}, []int{11, 12, 53, 52, 51, 91, 92}},
		{[]pair{{1, 11}, {1, 12}, {9, 91}, {9, 92}, {5, 51}, {5, 52}}, []int{11, 12, 51, 52, 91, 92}},
		{[]pair{{9, 91}, {9, 92}, {5, 51}, {5, 52}, {1, 11}, {1, 12}}, []int{11, 12, 51, 52, 91, 92}},
		{[]pair{{2, 1}, {1, 2}, {2, 3}, {1, 4}, {2, 5}, {1, 6}}, []int{2, 4, 6, 1, 3, 5}},
		// negative priorities and items, 0, and the ends of the integers
		{[]pair{{0, 0}, {-1, -1}, {1, 1}, {-2, -2}, {2, 2}}, []int{-2, -1, 0, 1, 2}},
		{[]pair{{-1, 5}, {-1, -5}, {0, 6}, {0, -6}, {-1, 0}}, []int{5, -5, 0, 6, -6}},
		{[]pair{{greatest, 1}, {least, 2}, {0, 3}, {greatest - 1, 4}, {least + 1, 5}}, []int{2, 5, 3, 4, 1}},
		{[]pair{{least, 1}, {greatest, 2}, {least, 3}, {greatest, 4}, {-1, 5}, {1, 6}}, []int{1, 3, 5, 6, 2, 4}},
		{[]pair{{greatest, least}, {least, greatest}, {least, -1}, {greatest, 0}}, []int{greatest, -1, least, 0}},
		{[]pair{{0, greatest}, {0, least}, {0, greatest - 1}, {0, least + 1}}, []int{greatest, least, greatest - 1, least + 1}},
		{[]pair{{1 << 32, 1}, {1, 1 << 32}, {-1 << 32, 2}, {0, -1 << 32}}, []int{2, -1 << 32, 1 << 32, 1}},
	} {
		expectPops(t, pushed(t, api.MaxItems, c.pairs), c.want...)
		expectPops(t, pushed(t, len(c.pairs), c.pairs), c.want...)
	}
}

// P8.2: the errors and their order; a refused item changes nothing.
func TestPushErrors(t *testing.T) {
	q := pushed(t, 3, []pair{{5, 1}, {3, 2}})
	// an item that is there, while there is room
	expectPush(t, q, 5, 1, api.ErrTwice)
	expectPush(t, q, 1, 1, api.ErrTwice)
	expectPush(t, q, 9, 2, api.ErrTwice)
	expectPush(t, q, least, 2, api.ErrTwice)
	expectPush(t, q, greatest, 1, api.ErrTwice)
	expectItems(t, q, 2, 1)
	// a full queue
	expectPush(t, q, 4, 3, api.OK)
	for _, priority := range []int{least, 0, 3, 4, 5, 9, greatest} {
		expectPush(t, q, priority, 4, api.ErrFull)
		expectPush(t, q, priority, 0, api.ErrFull)
		for item := 1; item <= 3; item++ {
			expectPush(t, q, priority, item, api.ErrTwice)
		}
	}
	expectPops(t, q, 2, 3, 1)
	// no capacity
	for _, most := range []int{0, -1, least} {
		q = queue.New(most)
		expectPush(t, q, 0, 0, api.ErrFull)
		expectPush(t, q, 1, 2, api.ErrFull)
		expectPush(t, q, 1, 2, api.ErrFull)
		expectPops(t, q)
	}
	// one item
	q = pushed(t, 1, []pair{{0, 0}})
	expectPush(t, q, 0, 0, api.ErrTwice)
	expectPush(t, q, 1, 0, api.ErrTwice)
	expectPush(t, q, -1, 1, api.ErrFull)
	expectPops(t, q, 0)
}

// P8.2, P8.3, P8.4: Pop and Remove make room for one item each, also for the one that has left.
func TestRoomAgain(t *testing.T) {
	q := pushed(t, 2, []pair{{5, 1}, {3, 2}})
	expectPush(t, q, 1, 3, api.ErrFull)
	expectPop(t, q, 2, true)
	expectPush(t, q, 1, 3, api.OK)
	expectPush(t, q, 1, 2, api.ErrFull)
	expectItems(t, q, 3, 1)
	expectRemove(t, q, 1, true)
	expectPush(t, q, 1, 1, api.OK)
	expectPush(t, q, 1, 4, api.ErrFull)
	expectItems(t, q, 3, 1)
	// what is not there makes no room
	expectRemove(t, q, 4, false)
	expectPush(t, q, 1, 4, api.ErrFull)
	expectPops(t, q, 3, 1)
	expectPush(t, q, 7, 1, api.OK)
	expectPush(t, q, 7, 3, api.OK)
	expectPush(t, q, 7, 4, api.ErrFull)
	expectPops(t, q, 1, 3)

	one := pushed(t, 1, []pair{{1, 1}})
	for i := 2; i < 2000; i++ {
		expectPush(t, one, i, i, api.ErrFull)
		if i%3 == 0 {
			expectRemove(t, one, i-1, true)
		} else {
			expectPop(t, one, i-1, true)
		}
		expectPush(t, one, -i, i, api.OK)
		expectItems(t, one, i)
	}
}

// P8.3: Pop and Peek of an empty queue, of one that was never filled and of one that is empty again.
func TestEmpty(t *testing.T) {
	for _, most := range []int{-1, 0, 1, 5, greatest} {
		q := queue.New(most)
		expectPop(t, q, 0, false)
		expectPeek(t, q, 0, false)
		expectPops(t, q)
	}
	q := pushed(t, 2, []pair{{5, 7}})
	expectPops(t, q, 7)
	expectPush(t, q, 5, 8, api.OK)
	expectRemove(t, q, 8, true)
	expectPops(t, q)
	expectPush(t, q, 5, 0, api.OK)
	// the item 0 is told from no item
	expectPeek(t, q, 0, true)
	expectPop(t, q, 0, true)
	expectPop(t, q, 0, false)
}

// P8.3: Peek returns what Pop returns, and removes nothing.
func TestPeek(t *testing.T) {
	q := pushed(t, 4, []pair{{5, 1}, {3, 2}, {5, 3}})
	expectPeek(t, q, 2, true)
	expectPeek(t, q, 2, true)
	expectPop(t, q, 2, true)
	expectPeek(t, q, 1, true)
	expectPush(t, q, 5, 2, api.OK)
	expectPeek(t, q, 1, true)
	expectPush(t, q, 4, 4, api.OK)
	expectPeek(t, q, 4, true)
	expectPeek(t, q, 4, true)
	expectRemove(t, q, 4, true)
	expectPeek(t, q, 1, true)
	expectPops(t, q, 1, 3, 2)
}

// P8.4: the first, a middle, the last and an absent item; the others keep their order.
func TestRemove(t *testing.T) {
	pairs := []pair{{5, 1}, {3, 2}, {5, 3}, {3, 4}, {4, 5}}
	order := []int{2, 4, 5, 1, 3}
	for i, item := range order {
		q := pushed(t, 5, pairs)
		expectRemove(t, q, item, true)
		expectItems(t, q, slices.Concat(order[:i], order[i+1:])...)
		expectRemove(t, q, item, false)
		expectPops(t, q, slices.Concat(order[:i], order[i+1:])...)
		expectRemove(t, q, item, false)
	}
	q := pushed(t, 5, pairs)
	// absent: also one that is 0, one that is only a priority or an index, and one that has left by Pop
	for _, item := range []int{0, -1, 6, 7, least, greatest} {
		expectRemove(t, q, item, false)
	}
	expectItems(t, q, order...)
	expectPop(t, q, 2, true)
	expectRemove(t, q, 2, false)
	expectItems(t, q, 4, 5, 1, 3)
	expectRemove(t, q, 3, true)
	expectRemove(t, q, 4, true)
	expectRemove(t, q, 5, true)
	expectRemove(t, q, 1, true)
	expectPops(t, q)

	empty := queue.New(0)
	expectRemove(t, empty, 0, false)
	edges := pushed(t, 4, []pair{{7, least}, {7, greatest}, {7, 0}, {7, -1}})
	expectRemove(t, edges, 7, false)
	expectRemove(t, edges, greatest, true)
	expectItems(t, edges, least, 0, -1)
	expectRemove(t, edges, least, true)
	expectRemove(t, edges, 0, true)
	expectRemove(t, edges, 0, false)
	expectPops(t, edges, -1)
}

// P8.5: an item that has left and is pushed again comes after all items of the same priority.
func TestPushAgain(t *testing.T) {
	pairs := []pair{{5, 1}, {3, 2}, {5, 3}, {3, 4}, {5, 5}, {7, 6}}
	for _, c := range []struct {
		again pair
		want  []int
	}{
		// with the same priority: the first, a middle and the last of its items
		{pair{5, 1}, []int{2, 4, 3, 5, 1, 6}},
		{pair{5, 3}, []int{2, 4, 1, 5, 3, 6}},
		{pair{5, 5}, []int{2, 4, 1, 3, 5, 6}},
		{pair{3, 2}, []int{4, 2, 1, 3, 5, 6}},
		{pair{3, 4}, []int{2, 4, 1, 3, 5, 6}},
		{pair{7, 6}, []int{2, 4, 1, 3, 5, 6}},
		// with another one that there is, and with one between and beyond them
		{pair{3, 1}, []int{2, 4, 1, 3, 5, 6}},
		{pair{7, 1}, []int{2, 4, 3, 5, 6, 1}},
		{pair{5, 2}, []int{4, 1, 3, 5, 2, 6}},
		{pair{5, 6}, []int{2, 4, 1, 3, 5, 6}},
		{pair{3, 6}, []int{2, 4, 6, 1, 3, 5}},
		{pair{4, 5}, []int{2, 4, 5, 1, 3, 6}},
		{pair{6, 2}, []int{4, 1, 3, 5, 2, 6}},
		{pair{-1, 3}, []int{3, 2, 4, 1, 5, 6}},
		{pair{least, 6}, []int{6, 2, 4, 1, 3, 5}},
		{pair{greatest, 2}, []int{4, 1, 3, 5, 6, 2}},
	} {
		q := pushed(t, 6, pairs)
		expectRemove(t, q, c.again.item, true)
		expectPush(t, q, c.again.priority, c.again.item, api.OK)
		expectPops(t, q, c.want...)
	}
	q := pushed(t, 6, pairs)
	expectPop(t, q, 2, true)
	expectPush(t, q, 3, 2, api.OK)
	expectItems(t, q, 4, 2, 1, 3, 5, 6)
	expectPop(t, q, 4, true)
	expectPush(t, q, 5, 4, api.OK)
	expectPops(t, q, 2, 1, 3, 5, 4, 6)
}

// P8.4: a clone has the same capacity and the same items, and neither queue is changed by what is done to the other.
func TestClone(t *testing.T) {
	start := func() (*queue.Queue, *queue.Queue) {
		q := pushed(t, 4, []pair{{5, 1}, {3, 2}, {5, 3}})
		c := q.Clone()
		if c == nil || c == q {
			t.Fatal("Clone returned nil or its own queue")
		}
		expectItems(t, q, 2, 1, 3)
		expectItems(t, c, 2, 1, 3)
		return q, c
	}
	for _, swap := range []bool{false, true} {
		for _, change := range []func(q *queue.Queue) []int{
			func(q *queue.Queue) []int { expectPush(t, q, 1, 9, api.OK); return []int{9, 2, 1, 3} },
			func(q *queue.Queue) []int { expectPush(t, q, 5, 9, api.OK); return []int{2, 1, 3, 9} },
			func(q *queue.Queue) []int { expectPush(t, q, 4, 9, api.OK); return []int{2, 9, 1, 3} },
			func(q *queue.Queue) []int { expectPop(t, q, 2, true); return []int{1, 3} },
			func(q *queue.Queue) []int { expectRemove(t, q, 1, true); return []int{2, 3} },
			func(q *queue.Queue) []int { expectRemove(t, q, 3, true); return []int{2, 1} },
		} {
			q, c := start()
			if swap {
				q, c = c, q
			}
			want := change(q)
			expectItems(t, c, 2, 1, 3)
			expectItems(t, q, want...)
			// the same capacity, and the place and the priority of each item
			expectPush(t, c, 4, 8, api.OK)
			expectPush(t, c, 4, 7, api.ErrFull)
			expectItems(t, q, want...)
			expectPops(t, c, 2, 8, 1, 3)
			expectItems(t, q, want...)
			expectPops(t, q, want...)
		}
	}
}

// P8.4: clones of an empty and of a full queue, and a clone of a clone.
func TestCloneSizes(t *testing.T) {
	for _, most := range []int{least, 0, 1, 2, 255, 256, 257, greatest} {
		q := queue.New(most)
		expectItems(t, q.Clone())
		size := 0
		for size <= api.MaxItems && q.Push(-size, size) == api.OK {
			size++
		}
		c := q.Clone().Clone()
		expectItems(t, c, q.Items()...)
		expectPush(t, c, 0, size, api.ErrFull)
		expectPush(t, q.Clone(), 0, size, api.ErrFull)
		if size > 0 {
			expectPush(t, c, 0, 0, api.ErrTwice)
			expectPop(t, c, size-1, true)
			expectPush(t, c, 1, size, api.OK)
			expectPush(t, c, 1, size+1, api.ErrFull)
			expectPush(t, q, 1, size, api.ErrFull)
		}
	}
}

// P8.2, P8.3: a full queue of MaxItems items, with many and with few priorities, pushed in different orders.
func TestFull(t *testing.T) {
	const all = api.MaxItems
	for _, c := range []struct{ step, priorities int }{
		{1, all}, {all - 1, all}, {77, all}, {1, 1}, {77, 1}, {1, 3}, {all - 1, 3}, {101, 16},
	} {
		q := queue.New(all)
		groups := make([][]int, c.priorities)
		for i := range all {
			// Each item is pushed once, because the step is odd.
			item := i * c.step % all
			priority := item * c.priorities / all
			expectPush(t, q, priority, item, api.OK)
			groups[priority] = append(groups[priority], item)
		}
		expectPush(t, q, 0, all, api.ErrFull)
		expectPush(t, q, 0, 5, api.ErrTwice)
		expectPops(t, q, slices.Concat(groups...)...)
	}
}

// model is a queue without any order: it looks for the item that leaves first.
type model struct {
	most, turns int
	in          []waiting
}

// waiting is an item in a model; later ones have a greater turn.
type waiting struct{ priority, item, turn int }

func (m *model) push(priority, item int) api.Errno {
	for _, w := range m.in {
		if w.item == item {
			return api.ErrTwice
		}
	}
	if len(m.in) == m.most {
		return api.ErrFull
	}
	m.turns++
	m.in = append(m.in, waiting{priority, item, m.turns})
	return api.OK
}

func (m *model) remove(item int) bool {
	size := len(m.in)
	m.in = slices.DeleteFunc(m.in, func(w waiting) bool { return w.item == item })
	return len(m.in) < size
}

// first returns the item with the smallest priority and, among these, with the smallest turn.
func (m *model) first() (int, bool) {
	if len(m.in) == 0 {
		return 0, false
	}
	best := m.in[0]
	for _, w := range m.in {
		if w.priority < best.priority || w.priority == best.priority && w.turn < best.turn {
			best = w
		}
	}
	return best.item, true
}

// items empties a copy of the model.
func (m *model) items() []int {
	rest := m.clone()
	var items []int
	for {
		item, ok := rest.first()
		if !ok {
			return items
		}
		items = append(items, item)
		rest.remove(item)
	}
}

func (m *model) clone() *model {
	return &model{m.most, m.turns, slices.Clone(m.in)}
}

// P8.2, P8.3, P8.5: all ways to push five items with three priorities, and one of them again.
func TestAllOrders(t *testing.T) {
	const size, priorities = 5, 3
	ways := 1
	for range size {
		ways *= priorities
	}
	for way := range ways {
		q, m := queue.New(size), &model{most: size}
		for item, rest := 0, way; item < size; item, rest = item+1, rest/priorities {
			expectPush(t, q, rest%priorities, item, m.push(rest%priorities, item))
		}
		again := way % size
		expectRemove(t, q, again, m.remove(again))
		expectItems(t, q, m.items()...)
		expectPush(t, q, 1, again, m.push(1, again))
		expectPops(t, q, m.items()...)
	}
}

// someNumber returns a number that follows no rule: mostly a small one, so that numbers recur, or one at the ends of the
// integers.
func someNumber(next func() uint64, small uint64) int {
	edges := []int{least, least + 1, -1 << 32, 1 << 32, greatest - 1, greatest}
	if next()%10 == 0 {
		return edges[next()%6]
	}
	return int(next()%small) - int(small/3)
}

// expectCall makes one call that follows no rule on a queue and on its model.
func expectCall(t *testing.T, q *queue.Queue, m *model, next func() uint64, items, pushes uint64) {
	t.Helper()
	item := someNumber(next, items)
	switch kind := next() % 20; {
	case kind < pushes:
		priority := someNumber(next, 6)
		expectPush(t, q, priority, item, m.push(priority, item))
	case kind < 16:
		first, ok := m.first()
		m.remove(first)
		expectPop(t, q, first, ok)
	case kind < 18:
		expectRemove(t, q, item, m.remove(item))
	default:
		first, ok := m.first()
		expectPeek(t, q, first, ok)
	}
	if got := q.Len(); got != len(m.in) {
		t.Fatalf("Len() = %d, want %d", got, len(m.in))
	}
	if want := m.items(); !slices.Equal(q.Items(), want) {
		t.Fatalf("Items() = %v, want %v", q.Items(), want)
	}
}

// P8.1 to P8.5: sequences of calls that follow no rule, and clones that go ways of their own.
func TestAnyCalls(t *testing.T) {
	next := pseudo()
	for round := range 400 {
		most := int(next()%12) - 1
		m := &model{most: max(most, 0)}
		q := queue.New(most)
		for range 100 {
			// Some rounds fill the queue, the others keep it nearly empty.
			expectCall(t, q, m, next, 15, 7+uint64(round%8))
			if next()%40 == 0 {
				other, otherModel := q.Clone(), m.clone()
				for range 10 {
					expectCall(t, other, otherModel, next, 15, 9)
				}
				expectPops(t, other, otherModel.items()...)
			}
		}
		expectPops(t, q, m.items()...)
	}
}

// P8.1 to P8.5: long sequences of calls on a queue of MaxItems items.
func TestManyCalls(t *testing.T) {
	next := pseudo()
	q, m := queue.New(greatest), &model{most: api.MaxItems}
	full := false
	for i := range 2000 {
		pushes := uint64(14)
		if i > 1200 {
			pushes = 5
		}
		expectCall(t, q, m, next, 1000, pushes)
		full = full || q.Len() == api.MaxItems
	}
	if !full {
		t.Fatal("the queue was never full")
	}
	expectPops(t, q, m.items()...)
}

// The rule Nil objects, for P8.1 to P8.4: nil and zero values return ErrNil and zero values, and stay as they are.
func TestNil(t *testing.T) {
	for _, q := range []*queue.Queue{nil, {}, new(queue.Queue)} {
		for range 2 {
			for _, n := range []int{0, 1, -1, least, greatest} {
				expectPush(t, q, n, 0, api.ErrNil)
				expectPush(t, q, 0, n, api.ErrNil)
				expectRemove(t, q, n, false)
			}
			expectPops(t, q)
			if q.Clone() != nil {
				t.Fatal("Clone is not nil")
			}
		}
	}
	// A queue of New is none of these, even if it has no capacity.
	expectPush(t, queue.New(0), 0, 0, api.ErrFull)
	if queue.New(0).Clone() == nil || queue.New(1).Clone() == nil {
		t.Fatal("a queue of New is taken for a zero value")
	}
}

// The rule Memory, for P8.3: what Items returned is neither changed by later calls nor the memory of the queue.
func TestMemory(t *testing.T) {
	q := pushed(t, 8, []pair{{5, 1}, {3, 2}, {5, 3}, {3, 4}})
	first, second, third := q.Items(), q.Items(), q.Clone().Items()
	for i := range second {
		second[i] = 70 + i
	}
	third = append(third[:1], 80, 81, 82, 83, 84)
	second = append(second[:2], 90)
	want := []int{2, 4, 1, 3}
	if !slices.Equal(first, want) || !slices.Equal(second, []int{70, 71, 90}) || third[0] != 2 {
		t.Fatalf("the results %v, %v and %v share memory", first, second, third)
	}
	expectItems(t, q, want...)
	expectPush(t, q, 4, 71, api.OK)
	expectRemove(t, q, 2, true)
	expectPop(t, q, 4, true)
	expectPush(t, q, 0, 90, api.OK)
	if !slices.Equal(first, want) {
		t.Fatalf("what Items returned became %v", first)
	}
	full := first[:cap(first)]
	for i := range full {
		full[i] = -9
	}
	expectPops(t, q, 90, 71, 1, 3)
}
