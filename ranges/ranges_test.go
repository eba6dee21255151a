package ranges_test

import (
	"math"
	"math/big"
	"slices"
	"testing"

	"spacecraft/api"
	"spacecraft/ranges"
)

const (
	least    = math.MinInt
	greatest = math.MaxInt
)

type list = []api.Range

// rs returns the ranges with these ends: the From and the To of the first one, then those of the next.
func rs(ends ...int) list {
	var l list
	for i := 0; i < len(ends); i += 2 {
		l = append(l, api.Range{From: ends[i], To: ends[i+1]})
	}
	return l
}

// pseudo returns numbers that follow no simple rule but are the same in every run.
func pseudo() func() uint64 {
	x := uint64(0x9E3779B97F4A7C15)
	return func() uint64 {
		x ^= x << 13
		x ^= x >> 7
		x ^= x << 17
		return x
	}
}

func in(r api.Range, n int) bool { return r.From <= n && n < r.To }

// element tells whether n is in the set of l: whether some range contains it.
func element(l list, n int) bool {
	for _, r := range l {
		if in(r, n) {
			return true
		}
	}
	return false
}

// ends returns the least int and all ends of ranges, ascending. Between two of them, either all integers or none are in the set of l.
func ends(l list) []int {
	points := []int{least, greatest}
	for _, r := range l {
		points = append(points, r.From, r.To)
	}
	slices.Sort(points)
	return slices.Compact(points)
}

// literalList returns the list of the integers for which has holds, if has changes at none but the points.
func literalList(points []int, has func(int) bool) list {
	slices.Sort(points)
	var l list
	open := false
	for _, p := range slices.Compact(points) {
		now := p != greatest && has(p)
		if now && !open {
			l = append(l, api.Range{From: p})
		}
		if !now && open {
			l[len(l)-1].To = p
		}
		open = now
	}
	return l
}

// literalSize returns the number of elements, however great it is.
func literalSize(l list) *big.Int {
	size := new(big.Int)
	points := ends(l)
	for i := 1; i < len(points); i++ {
		if element(l, points[i-1]) {
			size.Add(size, big.NewInt(int64(points[i])))
			size.Sub(size, big.NewInt(int64(points[i-1])))
		}
	}
	return size
}

func literalAdd(l list, r api.Range) list {
	return literalList(ends(append(slices.Clone(l), r)), func(n int) bool { return element(l, n) || in(r, n) })
}

func literalRemove(l list, r api.Range) list {
	return literalList(ends(append(slices.Clone(l), r)), func(n int) bool { return element(l, n) && !in(r, n) })
}

func literalMissing(l list, total int) list {
	return literalList(append(ends(l), 0, total), func(n int) bool { return n >= 0 && n < total && !element(l, n) })
}

// literalHead drops elements from the end of the list of l until at most n are left.
func literalHead(l list, n int) list {
	head := literalList(ends(l), func(n int) bool { return element(l, n) })
	surplus := literalSize(l)
	surplus.Sub(surplus, big.NewInt(int64(max(n, 0))))
	for surplus.Sign() > 0 {
		last := &head[len(head)-1]
		size := literalSize(list{*last})
		if size.Cmp(surplus) > 0 {
			to := big.NewInt(int64(last.To))
			last.To = int(to.Sub(to, surplus).Int64())
			return head
		}
		surplus.Sub(surplus, size)
		head = head[:len(head)-1]
	}
	return head
}

// expectList checks a returned list, and that an argument, which was a copy of l, is still what it was.
func expectList(t *testing.T, name string, argument, l list, number any, got, want list) {
	t.Helper()
	if !slices.Equal(got, want) {
		t.Fatalf("%s(%v, %v) = %v, want %v", name, l, number, got, want)
	}
	if !ranges.Valid(got) {
		t.Fatalf("%s(%v, %v) = %v, which is not Valid", name, l, number, got)
	}
	if !slices.Equal(argument, l) {
		t.Fatalf("%s(%v, %v) has changed the list to %v", name, l, number, argument)
	}
}

func expectValid(t *testing.T, l list, want bool) {
	t.Helper()
	if got := ranges.Valid(l); got != want {
		t.Fatalf("Valid(%v) = %t", l, got)
	}
}

func expectAdd(t *testing.T, l list, r api.Range, want list) {
	t.Helper()
	argument := slices.Clone(l)
	expectList(t, "Add", argument, l, r, ranges.Add(argument, r), want)
}

func expectRemove(t *testing.T, l list, r api.Range, want list) {
	t.Helper()
	argument := slices.Clone(l)
	expectList(t, "Remove", argument, l, r, ranges.Remove(argument, r), want)
}

func expectMissing(t *testing.T, l list, total int, want list) {
	t.Helper()
	argument := slices.Clone(l)
	expectList(t, "Missing", argument, l, total, ranges.Missing(argument, total), want)
}

func expectHead(t *testing.T, l list, n int, want list) {
	t.Helper()
	argument := slices.Clone(l)
	expectList(t, "Head", argument, l, n, ranges.Head(argument, n), want)
}

func expectHas(t *testing.T, l list, n int, want bool) {
	t.Helper()
	if got := ranges.Has(l, n); got != want {
		t.Fatalf("Has(%v, %d) = %t", l, n, got)
	}
}

func expectSize(t *testing.T, l list, want int) {
	t.Helper()
	if got := ranges.Size(l); got != want {
		t.Fatalf("Size(%v) = %d, want %d", l, got, want)
	}
}

// expectLiteral checks all functions with a list, a range and a number against the definitions.
func expectLiteral(t *testing.T, l list, r api.Range, n int) {
	t.Helper()
	expectAdd(t, l, r, literalAdd(l, r))
	expectRemove(t, l, r, literalRemove(l, r))
	expectMissing(t, l, n, literalMissing(l, n))
	expectHead(t, l, n, literalHead(l, n))
	expectHas(t, l, n, element(l, n))
	expectHas(t, l, r.From, element(l, r.From))
	expectHas(t, l, r.To, element(l, r.To))
	size := literalSize(l)
	if !size.IsInt64() {
		size.SetInt64(greatest)
	}
	expectSize(t, l, int(size.Int64()))
}

// smallRanges returns all ranges with ends from low to high, also the empty ones.
func smallRanges(low, high int) list {
	var l list
	for from := low; from <= high; from++ {
		for to := low; to <= high; to++ {
			l = append(l, api.Range{From: from, To: to})
		}
	}
	return l
}

// smallLists returns all lists of at most two of these ranges.
func smallLists(all list) []list {
	lists := []list{nil, {}}
	for _, a := range all {
		lists = append(lists, list{a})
		for _, b := range all {
			lists = append(lists, list{a, b})
		}
	}
	return lists
}

// someRange returns a range that follows no rule: short or long, empty or not, at the ends of the integers or not.
func someRange(next func() uint64) api.Range {
	edges := []int{least, least + 1, -1 << 32, -1, 0, 1, 5, 1 << 32, greatest - 1, greatest}
	from := int(next()>>20%50) - 20
	switch next() >> 20 % 8 {
	case 0:
		from = edges[next()>>20%10]
	case 1:
		from = int(next())
	}
	switch next() >> 20 % 8 {
	case 0:
		return api.Range{From: from, To: edges[next()>>20%10]}
	case 1:
		return api.Range{From: from, To: int(next())}
	case 2:
		return api.Range{From: from, To: from}
	case 3:
		return api.Range{From: from, To: from - int(next()>>20%10)}
	}
	return api.Range{From: from, To: from + int(next()>>20%10)}
}

func someList(next func() uint64, most uint64) list {
	var l list
	for range next() >> 20 % (most + 1) {
		l = append(l, someRange(next))
	}
	return l
}

// P7.1, P7.2, P7.3: the examples of the chapter and of DOC.md.
func TestExamples(t *testing.T) {
	expectAdd(t, rs(0, 2), api.Range{From: 2, To: 5}, rs(0, 5))
	expectRemove(t, rs(0, 5), api.Range{From: 1, To: 3}, rs(0, 1, 3, 5))
	expectMissing(t, rs(2, 6), 10, rs(0, 2, 6, 10))
	expectHead(t, rs(0, 2, 6, 10), 3, rs(0, 2, 6, 7))
	expectSize(t, rs(4, 6, 1, 5, 9, 8), 5)
}

// P7.1: lists that are Valid, and lists that are not.
func TestValid(t *testing.T) {
	for _, l := range []list{
		nil, {}, rs(0, 1), rs(-1, 0), rs(2, 5, 6, 9), rs(2, 5, 7, 8, 100, 200), rs(-9, -7, -5, 0, 1, 2),
		rs(least, greatest), rs(least, least+1), rs(greatest-1, greatest), rs(least, -1, 0, greatest), rs(0, 1, 2, 3, 4, 5, 6, 7),
	} {
		expectValid(t, l, true)
	}
	for _, l := range []list{
		// empty
		rs(0, 0), rs(1, 1), rs(5, 2), rs(1, 0), rs(greatest, least), rs(least, least), rs(greatest, greatest),
		// empty, beside others
		rs(0, 2, 3, 3), rs(0, 2, 5, 4), rs(1, 1, 3, 5), rs(3, 2, 4, 5), rs(0, 2, 5, 5, 8, 9), rs(0, 2, 5, 3, 8, 9),
		// touching
		rs(0, 2, 2, 4), rs(0, 2, 3, 5, 5, 7), rs(least, 0, 0, greatest), rs(-3, -1, -1, 1),
		// overlapping
		rs(0, 3, 2, 4), rs(0, 9, 2, 4), rs(0, 9, 9, 10), rs(0, 2, 5, 8, 7, 9), rs(least, 1, 0, greatest),
		// twice
		rs(0, 2, 0, 2), rs(0, 2, 0, 3), rs(0, 2, 4, 5, 4, 5),
		// out of order
		rs(5, 6, 0, 2), rs(0, 2, 8, 9, 4, 5), rs(greatest-1, greatest, least, 0),
	} {
		expectValid(t, l, false)
	}
}

// P7.1: every set of small integers has exactly one Valid list.
func TestOneValidList(t *testing.T) {
	const integers = 6
	lists := map[uint]list{}
	var extend func(l list)
	extend = func(l list) {
		if ranges.Valid(l) {
			var set uint
			for n := range integers {
				if element(l, n) {
					set += 1 << n
				}
			}
			if other, found := lists[set]; found {
				t.Fatalf("%v and %v are Valid lists of one set", l, other)
			}
			lists[set] = slices.Clone(l)
		}
		// Three ranges that are apart leave no room for a fourth one.
		if len(l) < 3 {
			for _, r := range smallRanges(0, integers) {
				extend(append(slices.Clone(l), r))
			}
		}
	}
	extend(nil)
	if len(lists) != 1<<integers {
		t.Fatalf("%d of %d sets have a Valid list", len(lists), 1<<integers)
	}
}

// P7.2: what Add returns, written out.
func TestAdd(t *testing.T) {
	for _, c := range []struct {
		l, r, want list
	}{
		{nil, rs(2, 5), rs(2, 5)}, {nil, rs(2, 2), nil}, {list{}, rs(5, 2), nil}, {nil, rs(least, greatest), rs(least, greatest)},
		// apart
		{rs(2, 5), rs(7, 9), rs(2, 5, 7, 9)}, {rs(7, 9), rs(2, 5), rs(2, 5, 7, 9)},
		{rs(0, 1, 8, 9), rs(4, 5), rs(0, 1, 4, 5, 8, 9)},
		// with one integer between
		{rs(2, 5), rs(6, 9), rs(2, 5, 6, 9)}, {rs(2, 5), rs(0, 1), rs(0, 1, 2, 5)},
		// touching
		{rs(2, 5), rs(5, 9), rs(2, 9)}, {rs(2, 5), rs(0, 2), rs(0, 5)},
		// overlapping
		{rs(2, 5), rs(4, 9), rs(2, 9)}, {rs(2, 5), rs(0, 3), rs(0, 5)}, {rs(2, 5), rs(0, 9), rs(0, 9)},
		// within
		{rs(2, 9), rs(4, 5), rs(2, 9)}, {rs(2, 9), rs(2, 9), rs(2, 9)}, {rs(2, 9), rs(2, 5), rs(2, 9)},
		{rs(2, 9), rs(5, 9), rs(2, 9)},
		// joining both
		{rs(0, 2, 5, 7), rs(2, 5), rs(0, 7)}, {rs(0, 2, 5, 7), rs(1, 6), rs(0, 7)},
		{rs(0, 2, 5, 7), rs(2, 4), rs(0, 4, 5, 7)},
		// spanning several
		{rs(0, 1, 2, 3, 4, 5, 6, 7), rs(2, 5), rs(0, 1, 2, 5, 6, 7)}, {rs(0, 1, 2, 3, 4, 5, 6, 7), rs(1, 6), rs(0, 7)},
		{rs(0, 1, 2, 3, 4, 5, 8, 9), rs(-5, 7), rs(-5, 7, 8, 9)}, {rs(0, 1, 2, 3, 4, 5), rs(-5, 50), rs(-5, 50)},
		// empty
		{rs(2, 5, 7, 9), rs(6, 6), rs(2, 5, 7, 9)}, {rs(2, 5, 7, 9), rs(9, 0), rs(2, 5, 7, 9)},
		{rs(2, 5, 6, 9), rs(6, 5), rs(2, 5, 6, 9)},
		{rs(4, 4, 3, 1), rs(0, 0), nil}, {rs(4, 4, 6, 8, 3, 1), rs(0, 2), rs(0, 2, 6, 8)}, {rs(2, 5), rs(3, 3), rs(2, 5)},
		// not Valid
		{rs(7, 9, 2, 5), rs(0, 0), rs(2, 5, 7, 9)}, {rs(7, 9, 2, 5, 4, 7), rs(20, 21), rs(2, 9, 20, 21)},
		{rs(5, 7, 0, 9, 1, 2, 0, 9), rs(12, 13), rs(0, 9, 12, 13)}, {rs(3, 5, 1, 3, 5, 5), rs(6, 5), rs(1, 5)},
		{rs(0, 2, 2, 4, 4, 6), rs(9, 9), rs(0, 6)},
		// negative
		{rs(-5, -2), rs(-2, 0), rs(-5, 0)}, {rs(-5, -2), rs(-1, 0), rs(-5, -2, -1, 0)},
		{rs(-5, -2), rs(-9, -8), rs(-9, -8, -5, -2)},
		// at the least and the maximum int
		{rs(0, 2), rs(least, -1), rs(least, -1, 0, 2)}, {rs(0, 2), rs(least, 0), rs(least, 2)},
		{rs(least, least+1), rs(least+1, least+2), rs(least, least+2)},
		{rs(0, 2), rs(3, greatest), rs(0, 2, 3, greatest)}, {rs(0, 2), rs(greatest-1, greatest), rs(0, 2, greatest-1, greatest)},
		{rs(least, greatest), rs(0, 2), rs(least, greatest)}, {rs(least, 0), rs(0, greatest), rs(least, greatest)},
		{rs(0, 2), rs(greatest, greatest), rs(0, 2)},
		{rs(0, 2), rs(greatest, least), rs(0, 2)}, {rs(greatest, least), rs(least, least), nil},
		{rs(greatest-2, greatest-1), rs(greatest-1, greatest), rs(greatest-2, greatest)},
	} {
		expectAdd(t, c.l, c.r[0], c.want)
	}
}

// P7.2: what Remove returns, written out.
func TestRemove(t *testing.T) {
	for _, c := range []struct {
		l, r, want list
	}{
		{nil, rs(2, 5), nil}, {list{}, rs(5, 2), nil}, {nil, rs(least, greatest), nil},
		// from the middle
		{rs(2, 9), rs(4, 6), rs(2, 4, 6, 9)}, {rs(2, 9), rs(4, 5), rs(2, 4, 5, 9)}, {rs(2, 9), rs(3, 8), rs(2, 3, 8, 9)},
		// from the beginning
		{rs(2, 9), rs(2, 4), rs(4, 9)}, {rs(2, 9), rs(0, 4), rs(4, 9)}, {rs(2, 9), rs(2, 8), rs(8, 9)},
		// from the end
		{rs(2, 9), rs(5, 9), rs(2, 5)}, {rs(2, 9), rs(5, 20), rs(2, 5)}, {rs(2, 9), rs(3, 9), rs(2, 3)},
		// all of it
		{rs(2, 9), rs(2, 9), nil}, {rs(2, 9), rs(0, 9), nil}, {rs(2, 9), rs(2, 10), nil}, {rs(2, 9), rs(0, 20), nil},
		// beside it
		{rs(2, 9), rs(0, 2), rs(2, 9)}, {rs(2, 9), rs(9, 12), rs(2, 9)}, {rs(2, 9), rs(0, 1), rs(2, 9)},
		{rs(2, 9), rs(12, 15), rs(2, 9)},
		// several ranges
		{rs(0, 2, 5, 7), rs(2, 5), rs(0, 2, 5, 7)}, {rs(0, 2, 5, 7), rs(3, 4), rs(0, 2, 5, 7)},
		{rs(0, 3, 5, 8), rs(2, 6), rs(0, 2, 6, 8)},
		{rs(0, 1, 2, 3, 4, 5, 6, 7), rs(2, 5), rs(0, 1, 6, 7)}, {rs(0, 1, 2, 3, 4, 5, 6, 7), rs(-1, 7), nil},
		{rs(0, 9, 20, 29, 40, 49), rs(5, 45), rs(0, 5, 45, 49)},
		{rs(0, 9, 20, 29, 40, 49), rs(22, 24), rs(0, 9, 20, 22, 24, 29, 40, 49)},
		{rs(0, 9, 20, 29, 40, 49), rs(-5, 25), rs(25, 29, 40, 49)},
		// empty
		{rs(2, 9), rs(5, 5), rs(2, 9)}, {rs(2, 9), rs(7, 4), rs(2, 9)}, {rs(2, 9), rs(9, 2), rs(2, 9)},
		{rs(2, 9), rs(20, -20), rs(2, 9)},
		{rs(2, 9), rs(2, 2), rs(2, 9)}, {rs(2, 5, 7, 9), rs(8, 3), rs(2, 5, 7, 9)}, {rs(4, 4, 3, 1), rs(0, 9), nil},
		{rs(4, 4, 3, 1), rs(9, 0), nil},
		// not Valid
		{rs(7, 9, 2, 5), rs(0, 0), rs(2, 5, 7, 9)}, {rs(7, 9, 2, 5), rs(3, 8), rs(2, 3, 8, 9)},
		{rs(5, 7, 0, 9, 1, 2, 0, 9), rs(5, 7), rs(0, 5, 7, 9)},
		{rs(4, 8, 0, 4), rs(3, 5), rs(0, 3, 5, 8)}, {rs(0, 6, 4, 9), rs(5, 5), rs(0, 9)},
		{rs(0, 2, 2, 4, 4, 6), rs(2, 4), rs(0, 2, 4, 6)},
		// negative
		{rs(-9, -2), rs(-5, -4), rs(-9, -5, -4, -2)}, {rs(-9, 9), rs(-1, 1), rs(-9, -1, 1, 9)},
		{rs(-9, -2), rs(2, 9), rs(-9, -2)},
		// at the least and the maximum int
		{rs(least, greatest), rs(0, 5), rs(least, 0, 5, greatest)}, {rs(least, greatest), rs(least, 0), rs(0, greatest)},
		{rs(least, greatest), rs(least, least+1), rs(least+1, greatest)},
		{rs(least, greatest), rs(0, greatest), rs(least, 0)},
		{rs(least, greatest), rs(greatest-1, greatest), rs(least, greatest-1)},
		{rs(least, greatest), rs(least, greatest), nil},
		{rs(least, greatest), rs(greatest, greatest), rs(least, greatest)},
		{rs(least, greatest), rs(greatest, least), rs(least, greatest)}, {rs(0, 5), rs(least, greatest), nil},
		{rs(least, least+1, greatest-1, greatest), rs(least, 0), rs(greatest-1, greatest)},
		{rs(least, least+1, greatest-1, greatest), rs(0, greatest), rs(least, least+1)},
	} {
		expectRemove(t, c.l, c.r[0], c.want)
	}
}

// P7.2: what Missing returns, written out.
func TestMissing(t *testing.T) {
	for _, c := range []struct {
		l     list
		total int
		want  list
	}{
		{nil, 10, rs(0, 10)}, {list{}, 1, rs(0, 1)}, {nil, greatest, rs(0, greatest)}, {rs(5, 5, 4, 2), 10, rs(0, 10)},
		// a total less than 1
		{nil, 0, nil}, {nil, -1, nil}, {nil, least, nil}, {rs(2, 6), 0, nil}, {rs(2, 6), -5, nil}, {rs(2, 6), least, nil},
		{rs(-5, -2), -1, nil}, {rs(-9, -8), -3, nil}, {rs(least, least+1), -3, nil},
		// of one integer
		{rs(2, 6), 1, rs(0, 1)}, {rs(0, 6), 1, nil}, {rs(1, 6), 1, rs(0, 1)}, {rs(-4, 0), 1, rs(0, 1)},
		{rs(-4, 1), 1, nil},
		// within a range, at its end and beyond all ranges
		{rs(2, 6), 2, rs(0, 2)}, {rs(2, 6), 3, rs(0, 2)}, {rs(2, 6), 4, rs(0, 2)}, {rs(2, 6), 6, rs(0, 2)},
		{rs(2, 6), 7, rs(0, 2, 6, 7)}, {rs(0, 6), 3, nil}, {rs(0, 6), 6, nil}, {rs(0, 6), 7, rs(6, 7)},
		{rs(2, 4, 6, 8), 20, rs(0, 2, 4, 6, 8, 20)}, {rs(2, 4, 6, 8), 8, rs(0, 2, 4, 6)},
		{rs(2, 4, 6, 8), 7, rs(0, 2, 4, 6)}, {rs(2, 4, 6, 8), 5, rs(0, 2, 4, 5)},
		{rs(2, 4, 6, 8), 4, rs(0, 2)}, {rs(0, 4, 6, 8), 9, rs(4, 6, 8, 9)},
		{rs(0, 1, 2, 3, 4, 5), 6, rs(1, 2, 3, 4, 5, 6)}, {rs(3, 9), 9, rs(0, 3)}, {rs(20, 29), 9, rs(0, 9)},
		{rs(9, 12), 9, rs(0, 9)},
		// negative
		{rs(-5, 3), 9, rs(3, 9)}, {rs(-5, -2), 9, rs(0, 9)}, {rs(-5, 0), 9, rs(0, 9)}, {rs(-5, -2, 0, 4), 9, rs(4, 9)},
		{rs(-5, 20), 9, nil}, {rs(-5, -3, -2, -1, 3, 5), 9, rs(0, 3, 5, 9)},
		// not Valid
		{rs(6, 8, 2, 4), 9, rs(0, 2, 4, 6, 8, 9)}, {rs(2, 5, 4, 7), 9, rs(0, 2, 7, 9)},
		{rs(2, 8, 4, 6), 9, rs(0, 2, 8, 9)}, {rs(4, 6, 2, 4), 9, rs(0, 2, 6, 9)}, {rs(2, 4, 2, 4), 9, rs(0, 2, 4, 9)},
		{rs(2, 4, 3, 3, 7, 1), 9, rs(0, 2, 4, 9)},
		// at the least and the maximum int
		{rs(2, 6), greatest, rs(0, 2, 6, greatest)}, {rs(least, greatest), greatest, nil},
		{rs(0, greatest), greatest, nil}, {rs(0, greatest-1), greatest, rs(greatest-1, greatest)},
		{rs(least, 5), greatest, rs(5, greatest)}, {rs(5, greatest), greatest, rs(0, 5)},
		{rs(greatest-1, greatest), greatest, rs(0, greatest-1)},
		{rs(greatest-1, greatest), greatest - 1, rs(0, greatest-1)}, {rs(least, greatest), 0, nil},
		{rs(least, 0), greatest, rs(0, greatest)},
	} {
		expectMissing(t, c.l, c.total, c.want)
	}
}

// P7.3: what Has reports, written out.
func TestHas(t *testing.T) {
	for _, c := range []struct {
		l       list
		yes, no []int
	}{
		{nil, nil, []int{0, 1, -1, least, greatest}},
		{list{}, nil, []int{0, 1, -1, least, greatest}},
		{rs(2, 6), []int{2, 3, 5}, []int{1, 6, 0, 7, -2, least, greatest}},
		{rs(2, 4, 6, 8), []int{2, 3, 6, 7}, []int{1, 4, 5, 8}},
		{rs(6, 8, 2, 4), []int{2, 3, 6, 7}, []int{1, 4, 5, 8}},
		{rs(2, 5, 4, 7), []int{2, 3, 4, 5, 6}, []int{1, 7}},
		{rs(0, 9, 4, 5), []int{0, 3, 4, 5, 8}, []int{-1, 9}},
		{rs(2, 4, 4, 6), []int{2, 3, 4, 5}, []int{1, 6}},
		{rs(5, 5, 8, 3), nil, []int{3, 4, 5, 6, 7, 8}},
		{rs(5, 5, 8, 3, 4, 6), []int{4, 5}, []int{3, 6, 7, 8}},
		{rs(-5, -2), []int{-5, -4, -3}, []int{-6, -2, -1, 0, 3}},
		{rs(least, least+2), []int{least, least + 1}, []int{least + 2, 0, greatest}},
		{rs(greatest-2, greatest), []int{greatest - 2, greatest - 1}, []int{greatest - 3, greatest, least}},
		{rs(least, greatest), []int{least, -1, 0, 1, greatest - 1}, []int{greatest}},
		{rs(greatest, greatest, greatest, least), nil, []int{greatest, least, 0, greatest - 1}},
	} {
		for _, n := range c.yes {
			expectHas(t, c.l, n, true)
		}
		for _, n := range c.no {
			expectHas(t, c.l, n, false)
		}
	}
}

// P7.3: what Size returns, written out.
func TestSize(t *testing.T) {
	for _, c := range []struct {
		l    list
		want int
	}{
		{nil, 0}, {list{}, 0}, {rs(2, 2), 0}, {rs(5, 2), 0}, {rs(5, 2, 3, 3), 0}, {rs(2, 3), 1}, {rs(2, 6), 4},
		{rs(2, 6, 8, 11), 7}, {rs(-6, -2), 4}, {rs(-6, 2), 8},
		// not Valid
		{rs(8, 11, 2, 6), 7}, {rs(2, 6, 4, 9), 7}, {rs(2, 6, 6, 9), 7}, {rs(2, 9, 4, 6), 7}, {rs(2, 6, 2, 6), 4},
		{rs(2, 6, 6, 4), 4}, {rs(2, 6, 20, 10), 4},
		// just the maximum int of elements, nearly as many, and more
		{rs(0, greatest), greatest}, {rs(1, greatest), greatest - 1}, {rs(-1, greatest), greatest},
		{rs(0, greatest-1), greatest - 1}, {rs(-1, greatest-1), greatest}, {rs(-2, greatest-1), greatest},
		{rs(least, -1), greatest}, {rs(least, 0), greatest}, {rs(least, -2), greatest - 1},
		{rs(least, greatest), greatest}, {rs(greatest, least), 0}, {rs(least, least), 0}, {rs(greatest, greatest), 0},
		{rs(least, -2, 0, 1), greatest}, {rs(least, -2, 0, 2), greatest}, {rs(least, -3, 0, 1), greatest - 1},
		{rs(least, -1, 0, greatest), greatest}, {rs(least, 0, 0, greatest), greatest},
		{rs(0, greatest, 0, greatest), greatest}, {rs(1, greatest, 1, greatest, 5, greatest), greatest - 1},
		{rs(least, -5, 5, greatest), greatest}, {rs(least, least+1, greatest-1, greatest), 2},
		{rs(least, -1<<62, 1<<62-1, greatest), greatest}, {rs(least, -1<<62, 1<<62, greatest), greatest},
		{rs(least, -1<<62, 1<<62+1, greatest), greatest - 1}, {rs(least, -1<<62, 1<<62+2, greatest), greatest - 2},
	} {
		expectSize(t, c.l, c.want)
	}
}

// P7.3: what Head returns, written out.
func TestHead(t *testing.T) {
	for _, c := range []struct {
		l    list
		n    int
		want list
	}{
		{nil, 5, nil}, {list{}, 0, nil}, {nil, greatest, nil}, {nil, least, nil}, {rs(5, 5, 7, 2), 3, nil},
		// none
		{rs(2, 6, 8, 11), 0, nil}, {rs(2, 6, 8, 11), -1, nil}, {rs(2, 6, 8, 11), least, nil}, {rs(2, 6, 8, 11), -8, nil},
		// within a range, at its end
		{rs(2, 6, 8, 11), 1, rs(2, 3)}, {rs(2, 6, 8, 11), 3, rs(2, 5)}, {rs(2, 6, 8, 11), 4, rs(2, 6)},
		{rs(2, 6, 8, 11), 5, rs(2, 6, 8, 9)}, {rs(2, 6, 8, 11), 6, rs(2, 6, 8, 10)},
		// all
		{rs(2, 6, 8, 11), 7, rs(2, 6, 8, 11)}, {rs(2, 6, 8, 11), 8, rs(2, 6, 8, 11)},
		{rs(2, 6, 8, 11), 1000, rs(2, 6, 8, 11)}, {rs(2, 6, 8, 11), greatest, rs(2, 6, 8, 11)},
		{rs(2, 6, 8, 11), greatest - 1, rs(2, 6, 8, 11)},
		{rs(0, 1, 2, 3, 4, 5), 1, rs(0, 1)}, {rs(0, 1, 2, 3, 4, 5), 2, rs(0, 1, 2, 3)},
		{rs(0, 1, 2, 3, 4, 5), 3, rs(0, 1, 2, 3, 4, 5)}, {rs(0, 1, 2, 9, 40, 50), 5, rs(0, 1, 2, 6)},
		// not Valid
		{rs(8, 11, 2, 6), 5, rs(2, 6, 8, 9)}, {rs(2, 6, 4, 9), 5, rs(2, 7)}, {rs(2, 6, 6, 9), 5, rs(2, 7)},
		{rs(2, 9, 4, 6), 3, rs(2, 5)}, {rs(2, 4, 2, 4), 3, rs(2, 4)}, {rs(5, 7, 3, 3, 9, 0, 1, 2), 2, rs(1, 2, 5, 6)},
		// negative
		{rs(-6, -2), 3, rs(-6, -3)}, {rs(-6, -4, -2, 3), 4, rs(-6, -4, -2, 0)}, {rs(-6, 3), 6, rs(-6, 0)},
		// at the least and the maximum int, and of more elements than the maximum int
		{rs(0, greatest), greatest, rs(0, greatest)}, {rs(0, greatest), greatest - 1, rs(0, greatest-1)},
		{rs(0, greatest), 1, rs(0, 1)}, {rs(-1, greatest-1), greatest, rs(-1, greatest-1)},
		{rs(-2, greatest-1), greatest, rs(-2, greatest-2)},
		{rs(-1, greatest), greatest, rs(-1, greatest-1)}, {rs(least, greatest), greatest, rs(least, -1)},
		{rs(least, greatest), greatest - 1, rs(least, -2)}, {rs(least, greatest), 1, rs(least, least+1)},
		{rs(least, greatest), 0, nil}, {rs(least, greatest), -1, nil}, {rs(least, greatest), least, nil},
		{rs(least, 0), greatest, rs(least, -1)}, {rs(least, -1), greatest, rs(least, -1)},
		{rs(least, -2, 0, 1), greatest, rs(least, -2, 0, 1)}, {rs(least, -2, 0, 9), greatest, rs(least, -2, 0, 1)},
		{rs(least, -1, 0, 9), greatest, rs(least, -1)}, {rs(0, 5, 7, greatest), greatest, rs(0, 5, 7, greatest)},
		{rs(-5, 0, 7, greatest), greatest, rs(-5, 0, 7, greatest)},
		{rs(-5, 0, 2, greatest), greatest - 1, rs(-5, 0, 2, greatest-4)},
		{rs(greatest-3, greatest), 2, rs(greatest-3, greatest-1)}, {rs(greatest-3, greatest), 3, rs(greatest-3, greatest)},
		{rs(greatest-3, greatest), greatest, rs(greatest-3, greatest)},
	} {
		expectHead(t, c.l, c.n, c.want)
	}
}

// P7.1, P7.2, P7.3: all lists of at most two small ranges, with all small ranges and numbers.
func TestSmallLists(t *testing.T) {
	all := smallRanges(-2, 3)
	for _, l := range smallLists(all) {
		for i, r := range all {
			expectLiteral(t, l, r, i%9-3)
		}
	}
}

// P7.1, P7.2, P7.3: lists that follow no rule, long ones and short ones.
func TestAnyList(t *testing.T) {
	next := pseudo()
	for i := range 30000 {
		l := someList(next, 6)
		if i%100 == 0 {
			l = someList(next, 60)
		}
		r := someRange(next)
		expectLiteral(t, l, r, r.From)
		expectLiteral(t, ranges.Add(l, r), someRange(next), r.To)
		expectLiteral(t, ranges.Remove(l, r), someRange(next), int(next()>>20%30))
	}
}

// P7.1, P7.2: the same ranges in another order, or listed twice, are the same set.
func TestOrder(t *testing.T) {
	next := pseudo()
	for range 2000 {
		l := someList(next, 12)
		other := slices.Concat(l, l)
		for i := range other {
			k := int(next() >> 20 % uint64(i+1))
			other[i], other[k] = other[k], other[i]
		}
		r, n := someRange(next), someRange(next).From
		expectAdd(t, other, r, ranges.Add(l, r))
		expectRemove(t, other, r, ranges.Remove(l, r))
		expectMissing(t, other, n, ranges.Missing(l, n))
		expectHead(t, other, n, ranges.Head(l, n))
		expectSize(t, other, ranges.Size(l))
	}
}

// expectComplement checks the first part of P7.4 for an integer.
func expectComplement(t *testing.T, l, missing list, total, n int) {
	t.Helper()
	present := n >= 0 && n < total && ranges.Has(l, n)
	absent := ranges.Has(missing, n)
	if present && absent || (present || absent) != (n >= 0 && n < total) {
		t.Fatalf("%d is wrong in Missing(%v, %d) = %v", n, l, total, missing)
	}
}

// expectUndone checks the second part of P7.4 for an integer.
func expectUndone(t *testing.T, l list, r api.Range, added, removed list, n int) {
	t.Helper()
	if in(r, n) {
		if !ranges.Has(added, n) || ranges.Has(removed, n) {
			t.Fatalf("%d is not added to %v or not removed with %v: %v, %v", n, l, r, added, removed)
		}
		return
	}
	if ranges.Has(added, n) != ranges.Has(l, n) || ranges.Has(removed, n) != ranges.Has(l, n) {
		t.Fatalf("%d is changed in %v by %v: %v, %v", n, l, r, added, removed)
	}
}

// expectProperties checks P7.4 at and beside all ends, between which nothing changes.
func expectProperties(t *testing.T, l list, r api.Range, total int) {
	t.Helper()
	missing := ranges.Missing(l, total)
	added := ranges.Add(l, r)
	removed := ranges.Remove(added, r)
	points := ends(slices.Concat(l, missing, added, removed, list{r, {From: 0, To: total}}))
	for _, p := range points {
		for _, n := range []int{p, max(p, least+1) - 1, min(p, greatest-1) + 1} {
			expectComplement(t, l, missing, total, n)
			expectUndone(t, l, r, added, removed, n)
		}
	}
	expectRemove(t, l, r, removed)
}

// P7.4: all lists of at most two small ranges, and lists that follow no rule.
func TestProperties(t *testing.T) {
	all := smallRanges(-1, 3)
	for _, l := range smallLists(all) {
		for i, r := range all {
			expectProperties(t, l, r, i%7-2)
		}
	}
	next := pseudo()
	for range 10000 {
		r := someRange(next)
		expectProperties(t, someList(next, 8), r, r.To)
		expectProperties(t, someList(next, 8), r, int(next()>>20%40))
	}
}

// calls are the functions that return lists, with a range and a number to call them with.
var calls = []func(l list) list{
	func(l list) list { return ranges.Add(l, api.Range{From: 30, To: 35}) },
	func(l list) list { return ranges.Add(l, api.Range{From: 5, To: 6}) },
	func(l list) list { return ranges.Add(l, api.Range{}) },
	func(l list) list { return ranges.Remove(l, api.Range{From: 11, To: 12}) },
	func(l list) list { return ranges.Remove(l, api.Range{From: 30, To: 35}) },
	func(l list) list { return ranges.Remove(l, api.Range{}) },
	func(l list) list { return ranges.Missing(l, 100) },
	func(l list) list { return ranges.Missing(l, 12) },
	func(l list) list { return ranges.Head(l, 8) },
	func(l list) list { return ranges.Head(l, 1000) },
}

// The rule Memory, for P7.2 and P7.3: arguments are neither changed, also beyond their length, nor kept, and results share
// no memory with them or with each other.
func TestMemory(t *testing.T) {
	for _, start := range []list{rs(2, 5, 10, 15, 20, 25), rs(20, 25, 2, 5, 10, 15), rs(10, 15, 0, 0, 10, 25, 3, 1)} {
		for i, call := range calls {
			room := append(slices.Clone(start), rs(77, 78, 79, 80)...)
			argument := room[:len(start)]
			first, second := call(argument), call(argument)
			want := slices.Clone(first)
			for k := range second {
				second[k] = api.Range{From: -7, To: -6}
			}
			if !slices.Equal(first, want) {
				t.Fatalf("call %d with %v: two results share memory", i, start)
			}
			if !slices.Equal(room, slices.Concat(start, rs(77, 78, 79, 80))) {
				t.Fatalf("call %d with %v: the argument is changed to %v", i, start, room)
			}
			for k := range room {
				room[k] = api.Range{From: -3, To: -2}
			}
			if third := call(slices.Clone(start)); !slices.Equal(first, want) || !slices.Equal(third, want) {
				t.Fatalf("call %d with %v: the result %v became %v, and then %v", i, start, want, first, third)
			}
		}
		l := slices.Clone(start)
		ranges.Valid(l)
		ranges.Has(l, 11)
		ranges.Size(l)
		if !slices.Equal(l, start) {
			t.Fatalf("Valid, Has or Size has changed %v to %v", start, l)
		}
	}
}
