package bucket_test

import (
	"fmt"
	"math"
	"math/big"
	"math/bits"
	"slices"
	"sort"
	"strings"
	"testing"

	"spacecraft/bucket"
)

const (
	least    = math.MinInt
	greatest = math.MaxInt
	// most is the greatest rate and the greatest size.
	most = 2147483648
	// lastTime is MaxTime.
	lastTime = 1099511627776
)

// edges are the rates and sizes at the ends of what is permitted, and beyond them.
func edges() []int {
	return []int{least, least + 1, -most - 1, -most, -2, -1, 0, 1, 2, most - 1, most, most + 1, 2 * most, greatest - 1, greatest}
}

// permitted is the rate or the size that New makes of n.
func permitted(n int) int {
	if n < 0 {
		return 0
	}
	if n > most {
		return most
	}
	return n
}

// pseudo returns numbers that follow no simple rule but are the same in every run.
func pseudo(seed uint64) func() uint64 {
	x := seed*2 + 0x9E3779B97F4A7C15
	return func() uint64 {
		x ^= x << 13
		x ^= x >> 7
		x ^= x << 17
		return x >> 20
	}
}

// model is a bucket that keeps to the chapter's words.
type model struct{ rate, size, level, time int }

func newModel(rate, size int) *model {
	return &model{rate: permitted(rate), size: permitted(size), level: permitted(size)}
}

func (m *model) clone() *model {
	copied := *m
	return &copied
}

// after is the level ticks later if nothing is taken, computed with a product of 128 bits.
func (m *model) after(ticks int) int {
	high, low := bits.Mul64(uint64(m.rate), uint64(ticks))
	if high > 0 || low > uint64(m.size-m.level) {
		return m.size
	}
	return m.level + int(low)
}

func (m *model) advance(now int) {
	if now > m.time && now <= lastTime {
		m.level = m.after(now - m.time)
		m.time = now
	}
}

func (m *model) take(n, now int) bool {
	m.advance(now)
	if n < 0 || n > m.level {
		return false
	}
	m.level -= n
	return true
}

func (m *model) reads(now int) int {
	m.advance(now)
	return m.level
}

// when searches for the time, by halves.
func (m *model) when(n, now int) (int, bool) {
	m.advance(now)
	if n < 0 {
		return 0, false
	}
	rest := lastTime - m.time
	ticks := sort.Search(rest+1, func(ticks int) bool { return m.after(ticks) >= n })
	if ticks > rest {
		return 0, false
	}
	return m.time + ticks, true
}

// create returns a new bucket.
func create(t *testing.T, rate, size int) *bucket.Bucket {
	t.Helper()
	b := bucket.New(rate, size)
	if b == nil {
		t.Fatalf("New(%d, %d) is nil", rate, size)
	}
	return b
}

// at returns a new bucket with the given level at the given time. Level and time must be possible.
func at(t *testing.T, rate, size, level, time int) *bucket.Bucket {
	t.Helper()
	b := create(t, rate, size)
	b.Level(time)
	expectTake(t, b, size-level, time, true)
	expectState(t, b, level, time)
	return b
}

// clone returns a copy of b.
func clone(t *testing.T, b *bucket.Bucket) *bucket.Bucket {
	t.Helper()
	c := b.Clone()
	if c == nil || c == b {
		t.Fatal("Clone() is nil or its own bucket")
	}
	return c
}

func expectTake(t *testing.T, b *bucket.Bucket, n, now int, want bool) {
	t.Helper()
	if got := b.Take(n, now); got != want {
		t.Fatalf("Take(%d, %d) = %t", n, now, got)
	}
}

func expectLevel(t *testing.T, b *bucket.Bucket, now, want int) {
	t.Helper()
	if got := b.Level(now); got != want {
		t.Fatalf("Level(%d) = %d, want %d", now, got, want)
	}
}

func expectWhen(t *testing.T, b *bucket.Bucket, n, now, want int) {
	t.Helper()
	if got, ok := b.When(n, now); got != want || !ok {
		t.Fatalf("When(%d, %d) = %d, %t, want %d, true", n, now, got, ok, want)
	}
}

func expectNever(t *testing.T, b *bucket.Bucket, n, now int) {
	t.Helper()
	if got, ok := b.When(n, now); got != 0 || ok {
		t.Fatalf("When(%d, %d) = %d, %t, want 0, false", n, now, got, ok)
	}
}

// expectState checks the level and the time of b, which stay as they are: now is no time here, and for 0 tokens, When returns
// the time of the bucket.
func expectState(t *testing.T, b *bucket.Bucket, level, time int) {
	t.Helper()
	for range 2 {
		expectLevel(t, b, -1, level)
		expectWhen(t, b, 0, -1, time)
	}
}

// play is a bucket with its model and with what has been taken from it.
type play struct {
	b     *bucket.Bucket
	m     *model
	taken []taking
}

// taking is a Take that has succeeded.
type taking struct{ time, n int }

func start(t *testing.T, rate, size int) *play {
	t.Helper()
	p := &play{b: create(t, rate, size), m: newModel(rate, size)}
	expectState(t, p.b, p.m.size, 0)
	return p
}

func (p *play) clone(t *testing.T) *play {
	t.Helper()
	return &play{clone(t, p.b), p.m.clone(), slices.Clone(p.taken)}
}

// expectState checks that p.b is as p.m.
func (p *play) expectState(t *testing.T) {
	t.Helper()
	expectState(t, p.b, p.m.level, p.m.time)
}

// take calls Take and checks what happens.
func (p *play) take(t *testing.T, n, now int) {
	t.Helper()
	want := p.m.take(n, now)
	expectTake(t, p.b, n, now, want)
	if want {
		p.taken = append(p.taken, taking{p.m.time, n})
	}
}

// level calls Level and checks what happens.
func (p *play) level(t *testing.T, now int) {
	t.Helper()
	expectLevel(t, p.b, now, p.m.reads(now))
}

// when calls When and checks what happens.
func (p *play) when(t *testing.T, n, now int) {
	t.Helper()
	if want, ok := p.m.when(n, now); ok {
		expectWhen(t, p.b, n, now, want)
	} else {
		expectNever(t, p.b, n, now)
	}
}

// call makes the call of the given kind and checks what happens.
func (p *play) call(t *testing.T, kind, n, now int) {
	t.Helper()
	switch kind {
	case 0:
		p.take(t, n, now)
	case 1:
		p.level(t, now)
	default:
		p.when(t, n, now)
	}
}

// P21.1, P21.3: the chapter's examples.
func TestExamples(t *testing.T) {
	b := create(t, 2, 10)
	expectTake(t, b, 7, 0, true)
	expectLevel(t, b, 0, 3)
	expectTake(t, b, 7, 1, false)
	expectLevel(t, b, 1, 5)
	expectWhen(t, b, 7, 1, 2)
	expectTake(t, b, 7, 2, true)
	expectState(t, b, 0, 2)

	b = create(t, 2, 20)
	expectTake(t, b, 20, 0, true)
	expectLevel(t, b, 5, 10)
	expectLevel(t, b, 3, 10)
	expectWhen(t, b, 11, 3, 6)
	expectState(t, b, 10, 5)

	b = create(t, 2, 10)
	expectNever(t, b, 11, 0)
	expectWhen(t, b, 10, 0, 0)
	expectState(t, b, 10, 0)
}

// P21.1, P21.3: a play that is written out.
func TestPlay(t *testing.T) {
	b := create(t, 3, 20)
	expectState(t, b, 20, 0)
	expectTake(t, b, 0, 0, true)
	expectTake(t, b, 12, 0, true)
	expectLevel(t, b, 0, 8)
	expectTake(t, b, 9, 0, false)
	expectTake(t, b, 8, 0, true)
	expectTake(t, b, 1, 0, false)
	expectTake(t, b, 0, 0, true)
	expectLevel(t, b, 2, 6)
	expectTake(t, b, 7, 2, false)
	expectTake(t, b, 5, 3, true)
	expectState(t, b, 4, 3)
	expectWhen(t, b, 4, 3, 3)
	expectWhen(t, b, 5, 3, 4)
	expectWhen(t, b, 7, 3, 4)
	expectWhen(t, b, 8, 3, 5)
	expectWhen(t, b, 19, 3, 8)
	expectWhen(t, b, 20, 3, 9)
	expectNever(t, b, 21, 3)
	expectState(t, b, 4, 3)
	expectWhen(t, b, 20, 7, 9)
	expectState(t, b, 16, 7)
	expectLevel(t, b, 8, 19)
	expectLevel(t, b, 9, 20)
	expectLevel(t, b, 1000, 20)
	expectTake(t, b, 21, 1001, false)
	expectState(t, b, 20, 1001)
	expectTake(t, b, 20, 1002, true)
	expectTake(t, b, 1, 1000, false)
	expectWhen(t, b, 1, 1000, 1003)
	expectState(t, b, 0, 1002)
	expectNever(t, b, -1, 1010)
	expectState(t, b, 20, 1010)
}

// P21.1: every rate and every size is brought into the range from 0 to 2^31, and the bucket begins full, at time 0.
func TestNew(t *testing.T) {
	for _, rate := range edges() {
		for _, size := range edges() {
			r, s := permitted(rate), permitted(size)
			expectState(t, create(t, rate, size), s, 0)
			b := create(t, rate, size)
			expectWhen(t, b, s, 0, 0)
			expectNever(t, b, s+1, 0)
			expectTake(t, b, s+1, 0, false)
			expectTake(t, b, s, 0, true)
			expectState(t, b, 0, 0)
			if s > 0 {
				expectTake(t, b, 1, 0, false)
			}
			switch {
			case s == 0:
				expectWhen(t, b, s, 0, 0)
			case r == 0:
				expectNever(t, b, s, 0)
			default:
				expectWhen(t, b, s, 0, (s-1)/r+1)
				expectWhen(t, b, min(r, s), 0, 1)
			}
			expectLevel(t, b, 1, min(r, s))
			expectLevel(t, b, 2, min(2*r, s))
			expectLevel(t, b, most+1, min((most+1)*r, s))
			expectState(t, b, min((most+1)*r, s), most+1)
		}
	}
}

// P21.1: some more rates and sizes, which are permitted.
func TestPermitted(t *testing.T) {
	next := pseudo(1)
	for range 2000 {
		rate, size := someSize(next), someSize(next)
		b := create(t, rate, size)
		expectState(t, b, size, 0)
		expectTake(t, b, size, 0, true)
		expectLevel(t, b, 1, min(rate, size))
		expectLevel(t, b, 3, min(3*rate, size))
	}
}

// someSize returns a number from 0 to 2^31 that is short or long.
func someSize(next func() uint64) int { return int(next() % (most + 1) >> (next() % 32)) }

// P21.1: the buckets of two calls of New have nothing to do with each other.
func TestTwoBuckets(t *testing.T) {
	one, two := create(t, 1, 10), create(t, 2, 30)
	expectTake(t, one, 10, 5, true)
	expectState(t, two, 30, 0)
	expectTake(t, two, 25, 3, true)
	expectState(t, one, 0, 5)
	expectLevel(t, one, 6, 1)
	expectLevel(t, two, 4, 7)
	expectState(t, create(t, 1, 10), 10, 0)
}

// stages are buckets of the size 100 and the rate 7 with several levels at several times.
func stages(t *testing.T) []*play {
	t.Helper()
	var list []*play
	for _, level := range []int{0, 1, 2, 37, 99, 100} {
		for _, time := range []int{0, 1, 50, lastTime - 100, lastTime - 1, lastTime} {
			list = append(list, &play{b: at(t, 7, 100, level, time), m: &model{7, 100, level, time}})
		}
	}
	return list
}

// amounts are the numbers of tokens at the edges for a bucket of stages with the given level.
func amounts(level int) []int {
	return []int{
		least, least + 1, -100, -2, -1, 0, 1, 2, level - 1, level, level + 1, level + 6, level + 7, level + 8, 99, 100, 101,
		1 << 32, greatest - 1, greatest,
	}
}

// P21.1: Take of all numbers at the edges, with each now at the edges of the time of the bucket.
func TestTakeEdges(t *testing.T) {
	for _, p := range stages(t) {
		level, time := p.m.level, p.m.time
		for _, n := range amounts(level) {
			for _, c := range nows(time) {
				q := clone(t, p.b)
				reached := min(100, level+7*(c.used-time))
				enough := n >= 0 && n <= reached
				expectTake(t, q, n, c.now, enough)
				if enough {
					reached -= n
				}
				expectState(t, q, reached, c.used)
			}
		}
	}
}

// use is a now with the time that is used for it.
type use struct{ now, used int }

// nows are the times at the edges for a bucket with the given time, and numbers that are no times.
func nows(time int) []use {
	list := []use{
		{least, time}, {least + 1, time}, {-lastTime, time}, {-2, time}, {-1, time}, {0, time}, {time - 1, time}, {time, time},
		{lastTime, lastTime}, {lastTime + 1, time}, {lastTime + 2, time}, {2 * lastTime, time}, {greatest - 1, time},
		{greatest, time},
	}
	if time < lastTime {
		list = append(list, use{time + 1, time + 1}, use{lastTime - 1, lastTime - 1})
	}
	return list
}

// P21.1: Level with each now at the edges of the time of the bucket.
func TestLevelEdges(t *testing.T) {
	for _, p := range stages(t) {
		level, time := p.m.level, p.m.time
		for _, c := range nows(time) {
			q := clone(t, p.b)
			reached := min(100, level+7*(c.used-time))
			expectLevel(t, q, c.now, reached)
			expectLevel(t, q, c.now, reached)
			expectState(t, q, reached, c.used)
		}
		expectState(t, p.b, level, time)
	}
}

// P21.1, P21.3: When for all numbers at the edges, with each now at the edges of the time of the bucket. It changes nothing but
// the advance.
func TestWhenEdges(t *testing.T) {
	for _, p := range stages(t) {
		level, time := p.m.level, p.m.time
		for _, n := range amounts(level) {
			for _, c := range nows(time) {
				q := clone(t, p.b)
				reached := min(100, level+7*(c.used-time))
				first := c.used
				for l := reached; l < n && n <= 100; l += 7 {
					first++
				}
				for range 2 {
					if n < 0 || n > 100 || first > lastTime {
						expectNever(t, q, n, c.now)
					} else {
						expectWhen(t, q, n, c.now, first)
					}
					expectState(t, q, reached, c.used)
				}
			}
		}
	}
}

// P21.1: the first call at the time 0, and at others, of each method.
func TestFirstCall(t *testing.T) {
	for _, c := range nows(0) {
		b := create(t, 1, 5)
		expectTake(t, b, 5, c.now, true)
		expectState(t, b, 0, c.used)
		b = create(t, 1, 5)
		expectTake(t, b, 6, c.now, false)
		expectState(t, b, 5, c.used)
		b = create(t, 1, 5)
		expectLevel(t, b, c.now, 5)
		expectState(t, b, 5, c.used)
		b = create(t, 1, 5)
		expectWhen(t, b, 5, c.now, c.used)
		expectState(t, b, 5, c.used)
		b = create(t, 1, 5)
		expectNever(t, b, 6, c.now)
		expectState(t, b, 5, c.used)
	}
}

// P21.1: a now that is in the past or that is no time neither moves the time back nor adds tokens, and the next one counts
// from the time of the bucket.
func TestPast(t *testing.T) {
	b := at(t, 2, 100, 10, 50)
	for _, now := range []int{49, 0, -1, least, lastTime + 1, greatest, 50} {
		expectLevel(t, b, now, 10)
		expectTake(t, b, 11, now, false)
		expectWhen(t, b, 11, now, 51)
		expectWhen(t, b, 10, now, 50)
		expectNever(t, b, 101, now)
		expectState(t, b, 10, 50)
	}
	expectTake(t, b, 10, 3, true)
	expectState(t, b, 0, 50)
	expectLevel(t, b, 51, 2)
	expectLevel(t, b, 50, 2)
	expectLevel(t, b, 53, 6)
	expectState(t, b, 6, 53)
}

// P21.1: a Take that returns false advances the bucket and does not decrease the level.
func TestRefused(t *testing.T) {
	b := at(t, 3, 50, 5, 10)
	expectTake(t, b, 9, 11, false)
	expectState(t, b, 8, 11)
	expectTake(t, b, 51, 13, false)
	expectState(t, b, 14, 13)
	expectTake(t, b, -1, 14, false)
	expectState(t, b, 17, 14)
	expectTake(t, b, least, 15, false)
	expectState(t, b, 20, 15)
	expectTake(t, b, greatest, 16, false)
	expectState(t, b, 23, 16)
	expectTake(t, b, 24, 12, false)
	expectState(t, b, 23, 16)
	expectTake(t, b, 27, 17, false)
	expectTake(t, b, 26, 17, true)
	expectState(t, b, 0, 17)
}

// P21.1: the tokens of the ticks up to now can be taken at once.
func TestTakeGained(t *testing.T) {
	b := at(t, 3, 50, 0, 0)
	expectTake(t, b, 3, 1, true)
	expectTake(t, b, 7, 3, false)
	expectTake(t, b, 6, 3, true)
	expectTake(t, b, 51, 20, false)
	expectTake(t, b, 50, 20, true)
	expectState(t, b, 0, 20)
}

// P21.1: a level that would grow beyond the size is the size: one tick before it would, at the tick at which it is the size or
// would be more, and later.
func TestFull(t *testing.T) {
	for _, c := range []struct{ rate, size, level, ticks, before int }{
		{1, 10, 0, 10, 9},
		{1, 10, 9, 1, 9},
		{3, 10, 0, 4, 9},
		{3, 10, 1, 3, 7},
		{3, 10, 2, 3, 8},
		{9, 10, 0, 2, 9},
		{10, 10, 0, 1, 0},
		{11, 10, 0, 1, 0},
		{11, 10, 9, 1, 9},
		{1, most, 0, most, most - 1},
		{2, most, 0, most / 2, most - 2},
		{2, most - 1, 0, most / 2, most - 2},
		{3, most, 0, 715827883, 2147483646},
		{most - 1, most, 0, 2, most - 1},
		{most - 1, most, 1, 1, 1},
		{most, most, 0, 1, 0},
		{most, most, most - 1, 1, most - 1},
		{most, 1, 0, 1, 0},
	} {
		for _, time := range []int{0, 1, lastTime - most - 1} {
			b := at(t, c.rate, c.size, c.level, time)
			expectLevel(t, clone(t, b), time+c.ticks-1, c.before)
			expectLevel(t, clone(t, b), time+c.ticks, c.size)
			expectLevel(t, clone(t, b), time+c.ticks+1, c.size)
			expectLevel(t, clone(t, b), lastTime, c.size)
			expectWhen(t, b, c.size, time, time+c.ticks)
			if c.before > 0 {
				expectWhen(t, b, c.before+1, time, time+c.ticks)
			}
			full := clone(t, b)
			expectLevel(t, full, lastTime, c.size)
			expectTake(t, full, c.size, lastTime, true)
			expectState(t, full, 0, lastTime)
		}
	}
	b := create(t, 5, 10)
	for _, now := range []int{0, 1, 2, 100, lastTime - 1, lastTime} {
		expectLevel(t, b, now, 10)
		expectState(t, b, 10, now)
	}
}

// P21.1: the rate times the ticks is greater than the greatest int: the level is the size.
func TestManyTokens(t *testing.T) {
	b := create(t, most, most)
	expectTake(t, b, most, 0, true)
	expectLevel(t, b, lastTime, most)
	expectState(t, b, most, lastTime)
	b = create(t, greatest, greatest)
	expectTake(t, b, most, 0, true)
	expectTake(t, b, most, lastTime, true)
	expectState(t, b, 0, lastTime)
	b = create(t, most, most)
	expectTake(t, b, most, 0, true)
	expectWhen(t, b, most, lastTime, lastTime)

	// Among the products are 2^63, 2^64, a little more and a little less.
	for _, rate := range []int{most, most - 1, most / 2, most/2 + 1, 1<<23 - 1, 1 << 23, 1<<24 + 1, 3, 2, 1} {
		for _, size := range []int{most, most - 1, 12345, 1} {
			for i := range 41 {
				for _, ticks := range []int{1<<i - 1, 1 << i, 1<<i + 1} {
					for _, left := range []int{0, 1, size / 2, size - 1, size} {
						p := start(t, rate, size)
						p.take(t, size-left, 0)
						p.level(t, min(ticks, lastTime))
						p.expectState(t)
					}
				}
			}
		}
	}
}

// P21.1, P21.3: with a rate of 0, the level never increases, and When finds a time only if the level is enough.
func TestNoRate(t *testing.T) {
	for _, rate := range []int{0, -1, -most, least} {
		for _, time := range []int{0, 7, lastTime} {
			b := at(t, rate, 10, 4, time)
			for _, n := range []int{0, 1, 3, 4} {
				expectWhen(t, b, n, time, time)
			}
			for _, n := range []int{5, 9, 10, 11, -1, least, greatest} {
				expectNever(t, b, n, time)
			}
			expectState(t, b, 4, time)
			expectLevel(t, b, lastTime, 4)
			expectWhen(t, b, 4, 0, lastTime)
			expectNever(t, b, 5, 0)
			expectTake(t, b, 5, lastTime, false)
			expectTake(t, b, 3, lastTime, true)
			expectTake(t, b, 1, lastTime, true)
			expectTake(t, b, 0, lastTime, true)
			expectNever(t, b, 1, lastTime)
			expectWhen(t, b, 0, lastTime, lastTime)
			expectState(t, b, 0, lastTime)
		}
	}
}

// P21.1, P21.3: with a size of 0, there never are tokens, whatever the rate is, and 0 of them can be taken.
func TestNoSize(t *testing.T) {
	for _, size := range []int{0, -1, least} {
		for _, rate := range []int{-1, 0, 1, 5, most, greatest} {
			b := create(t, rate, size)
			for _, now := range []int{0, 1, 500, lastTime} {
				expectLevel(t, b, now, 0)
				expectTake(t, b, 0, now, true)
				expectWhen(t, b, 0, now, now)
				for _, n := range []int{least, -1, 1, 2, most, greatest} {
					expectTake(t, b, n, now, false)
					expectNever(t, b, n, now)
				}
				expectState(t, b, 0, now)
			}
		}
	}
}

// P21.1, P21.3: differences that the rate divides, and others.
func TestWhenDivided(t *testing.T) {
	for _, c := range []struct{ rate, missing, ticks int }{
		{1, 1, 1}, {1, 2, 2}, {1, 1000, 1000}, {1, most, most},
		{2, 1, 1}, {2, 2, 1}, {2, 3, 2}, {2, 4, 2}, {2, most - 1, 1073741824}, {2, most, 1073741824},
		{3, 1, 1}, {3, 2, 1}, {3, 3, 1}, {3, 4, 2}, {3, 5, 2}, {3, 6, 2}, {3, 7, 3}, {3, most, 715827883},
		{10, 9, 1}, {10, 10, 1}, {10, 11, 2}, {10, 19, 2}, {10, 20, 2}, {10, 21, 3}, {10, 999, 100}, {10, 1000, 100}, {10, 1001, 101},
		{65536, most - 1, 32768}, {65536, most, 32768}, {65536, most - 65536, 32767}, {65536, most - 65535, 32768},
		{most / 2, most - 1, 2}, {most / 2, most, 2}, {most / 2, most / 2, 1}, {most / 2, most/2 + 1, 2},
		{most - 1, 1, 1}, {most - 1, most - 1, 1}, {most - 1, most, 2},
		{most, 1, 1}, {most, most - 1, 1}, {most, most, 1},
	} {
		for _, time := range []int{0, 1, 1000, lastTime - c.ticks - 1, lastTime - c.ticks} {
			b := at(t, c.rate, most, 0, time)
			expectWhen(t, b, c.missing, time, time+c.ticks)
			if c.missing < most {
				// The same with some tokens.
				b = at(t, c.rate, most, most-c.missing, time)
				expectWhen(t, b, most, time, time+c.ticks)
			}
			expectWhen(t, at(t, c.rate, c.missing, 0, time), c.missing, time, time+c.ticks)
			expectFirst(t, b, most)
			expectFirst(t, b, c.missing)
		}
	}
}

// P21.1, P21.3: the time is exactly MaxTime, or would be greater.
func TestWhenLate(t *testing.T) {
	for _, c := range []struct{ rate, missing, ticks int }{
		{1, 1, 1}, {1, 100, 100}, {1, most, most}, {7, 7, 1}, {7, 8, 2}, {7, 14, 2}, {7, 15, 3}, {most - 1, most, 2}, {most, most, 1},
	} {
		b := at(t, c.rate, c.missing, 0, lastTime-c.ticks)
		expectWhen(t, b, c.missing, -1, lastTime)
		expectWhen(t, b, c.missing, lastTime-c.ticks, lastTime)
		expectState(t, b, 0, lastTime-c.ticks)
		expectFirst(t, b, c.missing)
		expectLevel(t, b, lastTime, c.missing)

		b = at(t, c.rate, c.missing, 0, lastTime-c.ticks+1)
		expectNever(t, b, c.missing, -1)
		expectNever(t, b, c.missing, 0)
		expectNever(t, b, c.missing, lastTime+1)
		expectState(t, b, 0, lastTime-c.ticks+1)
		expectFirst(t, b, c.missing)
		expectTake(t, b, c.missing, lastTime, false)
		expectState(t, b, (c.ticks-1)*c.rate, lastTime)
	}

	// What is enough at MaxTime, and one token more.
	b := at(t, 3, 1000, 10, lastTime-20)
	expectWhen(t, b, 70, 0, lastTime)
	expectNever(t, b, 71, 0)
	expectWhen(t, b, 68, 0, lastTime)
	expectWhen(t, b, 67, 0, lastTime-1)
	expectState(t, b, 10, lastTime-20)
}

// P21.1, P21.3: When at a bucket whose time is MaxTime finds only what is there.
func TestWhenAtTheEnd(t *testing.T) {
	for _, rate := range []int{0, 1, 5, most} {
		for _, level := range []int{0, 1, 50, 99} {
			b := at(t, rate, 100, level, lastTime)
			for _, now := range []int{least, 0, lastTime - 1, lastTime, lastTime + 1, greatest} {
				expectWhen(t, b, 0, now, lastTime)
				expectWhen(t, b, level, now, lastTime)
				expectNever(t, b, level+1, now)
				expectNever(t, b, 100, now)
				expectNever(t, b, 101, now)
			}
			expectState(t, b, level, lastTime)
			expectTake(t, b, level+1, lastTime, false)
			expectTake(t, b, level, lastTime, true)
		}
		b := create(t, rate, 100)
		expectWhen(t, b, 100, lastTime, lastTime)
		expectNever(t, b, 101, lastTime)
	}
}

// P21.1: When advances the bucket, whatever it answers, and changes nothing else.
func TestWhenAdvances(t *testing.T) {
	b := at(t, 3, 50, 0, 0)
	expectWhen(t, b, 3, 2, 2)
	expectState(t, b, 6, 2)
	expectWhen(t, b, 50, 3, 17)
	expectState(t, b, 9, 3)
	expectNever(t, b, 51, 4)
	expectState(t, b, 12, 4)
	expectNever(t, b, -1, 5)
	expectState(t, b, 15, 5)
	expectNever(t, b, least, 6)
	expectState(t, b, 18, 6)
	expectNever(t, b, greatest, 7)
	expectState(t, b, 21, 7)
	expectWhen(t, b, 22, 5, 8)
	expectState(t, b, 21, 7)

	b = at(t, 3, 50, 0, lastTime-10)
	expectNever(t, b, 31, lastTime-9)
	expectState(t, b, 3, lastTime-9)
	b = at(t, 0, 50, 2, 10)
	expectNever(t, b, 3, 30)
	expectState(t, b, 2, 30)
}

// expectFirst checks P21.3 for n tokens in the state of b, on copies: Take succeeds at the time that When returns, and not a tick
// earlier; and if it returns none, not even at MaxTime.
func expectFirst(t *testing.T, b *bucket.Bucket, n int) {
	t.Helper()
	time, _ := b.When(0, -1)
	first, ok := b.When(n, -1)
	if !ok {
		expectTake(t, clone(t, b), n, lastTime, false)
		return
	}
	if first < time || first > lastTime {
		t.Fatalf("When(%d, -1) = %d at the time %d", n, first, time)
	}
	expectTake(t, clone(t, b), n, first, true)
	if first > time {
		expectTake(t, clone(t, b), n, first-1, false)
	}
}

// P21.3: every number of tokens in every state of small buckets, against Take at every time.
func TestEveryTime(t *testing.T) {
	for rate := range 6 {
		for size := range 12 {
			for level := range size + 1 {
				b := at(t, rate, size, level, 4)
				for n := -1; n <= size+1; n++ {
					expectFirst(t, b, n)
					first := -1
					for now := 4; now < 20 && first < 0; now++ {
						if clone(t, b).Take(n, now) {
							first = now
						}
					}
					if first < 0 {
						expectNever(t, b, n, 4)
					} else {
						expectWhen(t, b, n, 4, first)
					}
				}
			}
		}
	}
}

// P21.1: a bucket whose tokens come one by one, as the chapter's first sentence has it.
func TestTokens(t *testing.T) {
	for rate := range 5 {
		for size := range 9 {
			for level := range size + 1 {
				tokens := level
				b := at(t, rate, size, level, 0)
				for now := range 12 {
					expectLevel(t, clone(t, b), now, tokens)
					for range rate {
						if tokens < size {
							tokens++
						}
					}
				}
			}
		}
	}
}

// P21.1: a bucket that is looked at on the way reaches the level of one that is not.
func TestWays(t *testing.T) {
	next := pseudo(2)
	for range 1000 {
		size := 1 + int(next()%100000)
		b := at(t, int(next()%50), size, int(next()%uint64(size)), int(next()%1000))
		end := 1000 + int(next()%3000)
		want := clone(t, b).Level(end)
		for range next() % 20 {
			now := int(next()) % (end + 1)
			if next()%2 == 0 {
				b.Level(now)
			} else {
				b.When(int(next()%100), now)
			}
		}
		expectLevel(t, b, end, want)
	}
}

// P21.1, P21.4: every sequence of three calls on small buckets. Each call is made on a copy, so that all that follow it begin in
// the same state.
func TestEverySequence(t *testing.T) {
	for rate := range 3 {
		for size := range 3 {
			expectSequences(t, start(t, rate, size), 3)
		}
	}
}

// expectSequences makes every sequence of the given number of calls on copies of p.
func expectSequences(t *testing.T, p *play, calls int) {
	t.Helper()
	p.expectState(t)
	if calls == 0 {
		return
	}
	for _, now := range []int{0, 1, 2, lastTime, lastTime + 1} {
		for kind := range 3 {
			for n := -1; n <= p.m.size+1; n++ {
				if kind == 1 && n >= 0 {
					break // Level has no n
				}
				q := p.clone(t)
				q.call(t, kind, n, now)
				expectSequences(t, q, calls-1)
			}
		}
	}
	p.expectState(t)
}

// expectIntervals checks P21.2 in every interval from one Take to another. Longer ones with the same takings permit more.
func (p *play) expectIntervals(t *testing.T) {
	t.Helper()
	for i, from := range p.taken {
		sum := new(big.Int)
		for _, to := range p.taken[i:] {
			sum.Add(sum, big.NewInt(int64(to.n)))
			limit := new(big.Int).Mul(big.NewInt(int64(p.m.rate)), big.NewInt(int64(to.time-from.time)))
			limit.Add(limit, big.NewInt(int64(p.m.size)))
			if sum.Cmp(limit) > 0 {
				t.Fatalf("New(%d, %d): %s taken from %d to %d", p.m.rate, p.m.size, sum, from.time, to.time)
			}
		}
	}
}

// P21.1, P21.2, P21.3: plays without a rule, of small numbers and of numbers at the edges, with copies that go on.
func TestPlays(t *testing.T) {
	next := pseudo(3)
	for i := range 1500 {
		p := start(t, someRate(next), someRate(next))
		var early *play
		for j := range 60 {
			p.call(t, int(next()%3), p.number(next), p.now(next, i%4 == 0))
			if next()%4 == 0 {
				expectFirst(t, p.b, p.number(next))
			}
			if next()%8 == 0 {
				p.expectState(t)
			}
			if j == 30 {
				early = p.clone(t)
			}
		}
		for range 20 {
			early.call(t, int(next()%3), early.number(next), early.now(next, true))
		}
		p.expectState(t)
		early.expectState(t)
		p.expectIntervals(t)
		early.expectIntervals(t)
	}
}

// someRate returns a rate or a size.
func someRate(next func() uint64) int {
	switch next() % 4 {
	case 0:
		list := edges()
		return list[next()%uint64(len(list))]
	case 1:
		return someSize(next)
	}
	return int(next() % 20)
}

// number returns a number of tokens for the next call.
func (p *play) number(next func() uint64) int {
	switch next() % 8 {
	case 0:
		list := []int{-1, 0, p.m.size, p.m.size + 1, least, greatest}
		return list[next()%uint64(len(list))]
	case 1, 2:
		return p.m.level + int(next()%3) - 1
	case 3:
		return p.m.level + p.m.rate*int(next()%4)
	case 4:
		return int(next() % 20)
	}
	return int(next()) % (p.m.size + 1)
}

// now returns a time for the next call; far ones may be anywhere.
func (p *play) now(next func() uint64, far bool) int {
	switch next() % 8 {
	case 0:
		list := []int{-1, 0, p.m.time - 1, lastTime + 1, least, greatest}
		return list[next()%uint64(len(list))]
	case 1, 2:
		return p.m.time
	case 3:
		if far {
			return p.m.time + int(next()%lastTime>>(next()%40))
		}
	case 4:
		if far && next()%4 == 0 {
			return lastTime - int(next()%3)
		}
	}
	return p.m.time + int(next()%6)
}

// P21.2: who takes all that there is gets just size plus rate times the length of the interval, as long as the bucket is never
// full in between.
func TestGreedy(t *testing.T) {
	for rate := range 9 {
		for size := rate; size < 30; size += 3 {
			p := start(t, rate, size)
			sum := 0
			for now := range 100 {
				level := p.b.Level(now)
				p.take(t, level+1, now)
				p.take(t, level, now)
				p.take(t, 1, now)
				sum += level
				if sum != size+rate*now {
					t.Fatalf("New(%d, %d): %d taken until %d", rate, size, sum, now)
				}
			}
			p.expectIntervals(t)
		}
	}
}

// P21.2, P21.3: packets of several sizes, each taken as soon as When says.
func TestTransmission(t *testing.T) {
	next := pseudo(4)
	for range 200 {
		rate, size := 1+int(next()%40), 1+int(next()%500)
		p := start(t, rate, size)
		now := int(next() % 100)
		for range 100 {
			n := int(next()) % (size + 1)
			first, ok := p.b.When(n, now)
			if !ok {
				t.Fatalf("When(%d, %d) is false", n, now)
			}
			p.level(t, now)
			if first > now {
				p.take(t, n, first-1)
			}
			before := len(p.taken)
			p.take(t, n, first)
			if len(p.taken) != before+1 {
				t.Fatalf("%d tokens are not there at %d", n, first)
			}
			now = first + int(next()%3)
		}
		p.expectIntervals(t)
	}
}

// P21.4: a copy that is made before the first call, and its original, go on independently.
func TestCloneFirst(t *testing.T) {
	for _, swap := range []bool{false, true} {
		b := create(t, 2, 10)
		c := clone(t, b)
		if swap {
			b, c = c, b
		}
		expectTake(t, b, 7, 5, true)
		expectState(t, c, 10, 0)
		expectTake(t, c, 4, 1, true)
		expectState(t, b, 3, 5)
		expectState(t, c, 6, 1)
		expectLevel(t, b, 6, 5)
		expectLevel(t, c, 2, 8)
		expectWhen(t, b, 10, 7, 9)
		expectWhen(t, c, 10, 2, 3)
		expectState(t, b, 7, 7)
		expectState(t, c, 8, 2)
	}
	for _, rate := range edges() {
		for _, size := range edges() {
			c := clone(t, clone(t, create(t, rate, size)))
			expectState(t, c, permitted(size), 0)
			expectTake(t, c, permitted(size), 0, true)
			expectLevel(t, c, 1, min(permitted(rate), permitted(size)))
		}
	}
}

// P21.4: a copy in the middle of a play has the rate, the size, the level and the time of its original; each method changes
// only the one that it is called on.
func TestClone(t *testing.T) {
	for _, swap := range []bool{false, true} {
		for kind := range 3 {
			b := at(t, 3, 50, 20, 10)
			c := clone(t, b)
			if swap {
				b, c = c, b
			}
			p := &play{b: b, m: &model{3, 50, 20, 10}}
			for i := range 10 {
				p.call(t, kind, 5, 11+i)
				expectState(t, c, 20, 10)
			}
			p.call(t, kind, 50, lastTime)
			expectState(t, c, 20, 10)
			expectNever(t, c, 51, 10)
			expectWhen(t, c, 50, 10, 20)
			expectLevel(t, c, 12, 26)
			expectTake(t, c, 26, 12, true)
			p.expectState(t)
			expectState(t, c, 0, 12)
		}
	}
}

// P21.4: a copy and its original, and copies of both, in turns.
func TestClonesInTurn(t *testing.T) {
	next := pseudo(5)
	for range 100 {
		all := []*play{start(t, int(next()%9), int(next()%60))}
		for i := range 120 {
			p := all[next()%uint64(len(all))]
			p.call(t, int(next()%3), p.number(next), p.now(next, false))
			if i%15 == 0 {
				all = append(all, p.clone(t))
			}
			for _, q := range all {
				q.expectState(t)
			}
		}
		for _, q := range all {
			q.expectIntervals(t)
		}
	}
}

// expectNothing checks that nothing can be done with b.
func expectNothing(t *testing.T, b *bucket.Bucket) {
	t.Helper()
	for range 2 {
		for _, now := range []int{least, -1, 0, 1, 100, lastTime, lastTime + 1, greatest} {
			expectLevel(t, b, now, 0)
			for _, n := range []int{least, -1, 0, 1, most, greatest} {
				expectTake(t, b, n, now, false)
				expectNever(t, b, n, now)
			}
			if b.Clone() != nil {
				t.Fatal("Clone() is not nil")
			}
		}
	}
}

// P21.5: a nil pointer.
func TestNilBucket(t *testing.T) {
	expectNothing(t, nil)
	var b *bucket.Bucket
	expectNothing(t, b.Clone())
}

// P21.5: a bucket that New did not return; the calls leave it as it was.
func TestZeroBucket(t *testing.T) {
	var b bucket.Bucket
	expectNothing(t, &b)
	expectNothing(t, new(bucket.Bucket))
	if b != (bucket.Bucket{}) {
		t.Fatal("a zero value has changed")
	}
}

// The rule Determinism: the answers depend on nothing but the calls on the bucket.
func TestSameCalls(t *testing.T) {
	all := func() string {
		next := pseudo(6)
		var seen strings.Builder
		b := create(t, 4, 300)
		for range 1000 {
			now, n := int(next()%3000), int(next()%310)
			first, ok := b.When(n, now)
			fmt.Fprintln(&seen, b.Take(n, now), b.Level(now), first, ok)
		}
		return seen.String()
	}
	if all() != all() {
		t.Fatal("the same calls have different results")
	}
}
