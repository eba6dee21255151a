package marker_test

import (
	"bytes"
	"encoding/hex"
	"math"
	"slices"
	"strings"
	"testing"

	"spacecraft/marker"
)

const (
	least    = math.MinInt
	greatest = math.MaxInt
	// mark is the marker.
	mark = "\x1A\xCF\xFC\x1D"
	// largest is the greatest size of a frame.
	largest = 1024
)

// pseudo returns numbers that follow no simple rule but are the same in every run.
func pseudo(seed uint64) func() uint64 {
	x := seed*2 + 0x9E3779B97F4A7C15
	return func() uint64 {
		x ^= x << 13
		x ^= x >> 7
		x ^= x << 17
		return x >> 20
	}
}

// someBytes returns n bytes that follow no rule.
func someBytes(next func() uint64, n int) []byte {
	b := make([]byte, n)
	for i := range b {
		b[i] = byte(next())
	}
	return b
}

// fewBytes returns n bytes out of few different ones, mostly those of a marker in their order.
func fewBytes(next func() uint64, n int) []byte {
	b := make([]byte, n)
	at := 0
	for i := range b {
		switch next() % 8 {
		case 0:
			at = 0
		case 1:
			at = int(next() % 4)
		case 2:
			b[i] = byte(next() % 2 * 0xFF)
			continue
		}
		b[i] = mark[at]
		at = (at + 1) % 4
	}
	return b
}

// fromHex returns the bytes of hexadecimal digits, between which there may be spaces.
func fromHex(t *testing.T, digits string) []byte {
	t.Helper()
	b, err := hex.DecodeString(strings.ReplaceAll(digits, " ", ""))
	if err != nil {
		t.Fatalf("%q: %v", digits, err)
	}
	return b
}

// mixed is what chapter 12 makes of b: bit by bit, by the rule that gives each bit of its sequence.
func mixed(b []byte) []byte {
	noise := make([]byte, 0, 8*len(b))
	result := bytes.Clone(b)
	for i := range 8 * len(b) {
		bit := byte(1)
		if i >= 8 {
			bit = noise[i-1] ^ noise[i-3] ^ noise[i-5] ^ noise[i-8]
		}
		noise = append(noise, bit)
		result[i/8] ^= bit << (7 - i%8)
	}
	return result
}

// wrapped is P13.1 of Wrap.
func wrapped(frame []byte) []byte { return append([]byte(mark), mixed(frame)...) }

// opening returns how many bytes at the end of b may begin a marker.
func opening(b []byte) int {
	for n := 3; n > 0; n-- {
		if bytes.HasSuffix(b, []byte(mark[:n])) {
			return n
		}
	}
	return 0
}

// answer is P13.2 and P13.3 for a stream that is looked at as a whole: all its frames, and the number of skipped bytes.
func answer(stream []byte, size int) ([][]byte, int) {
	var frames [][]byte
	skipped := 0
	for {
		before, after, found := bytes.Cut(stream, []byte(mark))
		skipped += len(before)
		if !found {
			return frames, skipped - opening(before)
		}
		if len(after) < size {
			return frames, skipped
		}
		frames = append(frames, mixed(after[:size]))
		stream = after[size:]
	}
}

func sameFrames(a, b [][]byte) bool { return slices.EqualFunc(a, b, bytes.Equal) }

// head returns the first bytes of b, which are enough for a message.
func head(b []byte) []byte { return b[:min(len(b), 40)] }

func expectBytes(t *testing.T, what string, got, want []byte) {
	t.Helper()
	if !bytes.Equal(got, want) {
		t.Fatalf("%s: %d bytes, % X, want %d, % X", what, len(got), head(got), len(want), head(want))
	}
}

func expectFrames(t *testing.T, what string, got, want [][]byte) {
	t.Helper()
	if len(got) != len(want) {
		t.Fatalf("%s: %d frames, want %d", what, len(got), len(want))
	}
	for i := range want {
		expectBytes(t, what, got[i], want[i])
	}
}

func expectSkipped(t *testing.T, f *marker.Finder, want int) {
	t.Helper()
	for range 2 {
		if got := f.Skipped(); got != want {
			t.Fatalf("Skipped() = %d, want %d", got, want)
		}
	}
}

// expectFeed feeds b and checks the frames that are complete, and the number of skipped bytes.
func expectFeed(t *testing.T, f *marker.Finder, b []byte, skipped int, frames ...[]byte) {
	t.Helper()
	expectFrames(t, "Feed", f.Feed(b), frames)
	expectSkipped(t, f, skipped)
}

// finder returns a new Finder.
func finder(t *testing.T, size int) *marker.Finder {
	t.Helper()
	f := marker.NewFinder(size)
	if f == nil {
		t.Fatalf("NewFinder(%d) is nil", size)
	}
	expectSkipped(t, f, 0)
	return f
}

// run is a Finder with all the bytes that it has been fed.
type run struct {
	f      *marker.Finder
	size   int
	stream []byte
}

func start(t *testing.T, size int) *run {
	t.Helper()
	return &run{f: finder(t, size), size: size}
}

// feed feeds b and checks the answer to it.
func (r *run) feed(t *testing.T, b []byte) {
	t.Helper()
	before, _ := answer(r.stream, r.size)
	r.stream = append(r.stream, b...)
	frames, skipped := answer(r.stream, r.size)
	expectFeed(t, r.f, b, skipped, frames[len(before):]...)
}

func (r *run) clone(t *testing.T) *run {
	t.Helper()
	f := r.f.Clone()
	if f == nil {
		t.Fatal("Clone() is nil")
	}
	return &run{f: f, size: r.size, stream: bytes.Clone(r.stream)}
}

// divisions returns ways to feed a stream: as a whole, byte by byte, in other small pieces, divided at every place once, and
// with calls without any byte in between.
func divisions(stream []byte) [][][]byte {
	all := [][][]byte{{stream}, {nil, stream, {}}}
	for n := 1; n <= 9; n++ {
		all = append(all, slices.Collect(slices.Chunk(stream, n)))
	}
	var slow [][]byte
	for i := range stream {
		slow = append(slow, nil, stream[i:i+1], []byte{})
	}
	all = append(all, slow)
	for i := range len(stream) + 1 {
		all = append(all, [][]byte{stream[:i], stream[i:]}, [][]byte{stream[:i], nil, {}, stream[i:]})
	}
	return all
}

// expectDivided feeds the stream in many ways and checks that together they give these frames and skip so many bytes.
func expectDivided(t *testing.T, size int, stream []byte, skipped int, want ...[]byte) {
	t.Helper()
	for _, pieces := range divisions(stream) {
		f := finder(t, size)
		var got [][]byte
		for _, piece := range pieces {
			got = append(got, f.Feed(piece)...)
		}
		if !sameFrames(got, want) || f.Skipped() != skipped {
			t.Fatalf("frames of %d bytes, % X in %d calls: %d frames, % X, and Skipped() = %d, want %d, % X, and %d",
				size, head(stream), len(pieces), len(got), got, f.Skipped(), len(want), want, skipped)
		}
	}
}

// expectSteps feeds the stream in many ways and checks the answer to each call.
func expectSteps(t *testing.T, size int, stream []byte) {
	t.Helper()
	for _, pieces := range divisions(stream) {
		r := start(t, size)
		for _, piece := range pieces {
			r.feed(t, piece)
		}
		if !bytes.Equal(r.stream, stream) {
			t.Fatal("the test has not fed the stream")
		}
	}
}

// P13.1, P13.2, P13.3: the chapter's examples.
func TestExamples(t *testing.T) {
	expectBytes(t, "Wrap of 00", marker.Wrap([]byte{0}), fromHex(t, "1A CF FC 1D FF"))
	stream := fromHex(t, "33 1A 1A CF FC 1D FF 1A")
	expectFeed(t, finder(t, 1), stream, 2, []byte{0})
	expectDivided(t, 1, stream, 2, []byte{0})
}

// P13.1: Size is the length of the marker.
func TestSize(t *testing.T) {
	const size = marker.Size
	if size != 4 {
		t.Errorf("Size = %d", size)
	}
}

// P13.1: Wrap of frames that are written out.
func TestWrapWritten(t *testing.T) {
	for _, c := range []struct{ frame, want string }{
		{"", "1A CF FC 1D"},
		{"00", "1A CF FC 1D FF"},
		{"FF", "1A CF FC 1D 00"},
		{"1A", "1A CF FC 1D E5"},
		{"00 00 00 00 00", "1A CF FC 1D FF 48 0E C0 9A"},
		{"1A CF FC 1D", "1A CF FC 1D E5 87 F2 DD"},
		{"E5 87 F2 DD", "1A CF FC 1D 1A CF FC 1D"},
	} {
		expectBytes(t, "Wrap of "+c.frame, marker.Wrap(fromHex(t, c.frame)), fromHex(t, c.want))
	}
	expectBytes(t, "Wrap of nil", marker.Wrap(nil), []byte(mark))
	expectBytes(t, "Wrap of no bytes", marker.Wrap([]byte{}), []byte(mark))
	expectBytes(t, "Wrap of no bytes with room for two", marker.Wrap([]byte{1, 2}[:0]), []byte(mark))
}

// P13.1: Wrap of frames of all lengths that a Finder permits, and of longer ones.
func TestWrapLengths(t *testing.T) {
	next := pseudo(1)
	for n := range 3 * largest {
		frame := someBytes(next, n)
		expectBytes(t, "Wrap", marker.Wrap(frame), wrapped(frame))
	}
	for _, n := range []int{4096, 9973, 1 << 16, 1<<20 + 1} {
		frame := someBytes(next, n)
		expectBytes(t, "Wrap", marker.Wrap(frame), wrapped(frame))
	}
}

// P13.1: Wrap of every value of a byte, in the first place and in the one after it.
func TestWrapValues(t *testing.T) {
	for x := range 256 {
		expectBytes(t, "Wrap of one byte", marker.Wrap([]byte{byte(x)}), []byte{0x1A, 0xCF, 0xFC, 0x1D, byte(255 - x)})
		expectBytes(t, "Wrap of two bytes", marker.Wrap([]byte{0, byte(x)}), []byte{0x1A, 0xCF, 0xFC, 0x1D, 0xFF, byte(x) ^ 0x48})
	}
}

// P13.1: NewFinder returns nil for sizes that are not from 1 to MaxFrame.
func TestNewFinderNil(t *testing.T) {
	for _, size := range []int{
		least, least + 1, -1 << 32, -1<<32 + 1, -1025, -1024, -1023, -256, -4, -2, -1, 0, 1025, 1026, 1028, 2047, 2048, 2049,
		4096, 1 << 16, 1<<16 + 1, 1 << 32, 1<<32 + 1, 1<<32 + 1024, greatest - 1, greatest,
	} {
		if f := marker.NewFinder(size); f != nil {
			t.Errorf("NewFinder(%d) is not nil", size)
		}
	}
}

// P13.1, P13.2: for each size from 1 to MaxFrame, frames of just that size: not a byte less, and none of the next one.
func TestEverySize(t *testing.T) {
	next := pseudo(2)
	for size := 1; size <= largest; size++ {
		first, second := someBytes(next, size), someBytes(next, size)
		f := finder(t, size)
		head, last := wrapped(first)[:3+size], wrapped(first)[3+size:]
		expectFeed(t, f, head, 0)
		expectFeed(t, f, last, 0, first)
		expectFeed(t, f, append(wrapped(second), 0), 1, second)
	}
}

// P13.1: a new Finder is at the beginning of a stream, whatever other Finders have been fed.
func TestFindersIndependent(t *testing.T) {
	frame := []byte{1, 2, 3}
	stream := append([]byte{0x33}, wrapped(frame)...)
	for i := 1; i < len(stream); i++ {
		one := finder(t, 3)
		expectFeed(t, one, stream[:i], 1)
		other := finder(t, 3)
		expectFeed(t, other, []byte(mark+"\xFF"), 0)
		expectFeed(t, finder(t, 3), stream, 1, frame)
		expectFeed(t, one, stream[i:], 1, frame)
		expectFeed(t, other, fromHex(t, "48 0E 1A"), 0, make([]byte, 3))
	}
}

// P13.2, P13.3, P13.4: streams that are written out, each fed in many ways.
func TestStreamsWritten(t *testing.T) {
	for _, c := range []struct {
		size    int
		stream  string
		skipped int
		frames  []string
	}{
		// Nothing, and no marker.
		{1, "", 0, nil},
		{1, "33", 1, nil},
		{1, "CF", 1, nil},
		{1, "FC 1D", 2, nil},
		{1, "CF FC 1D FF", 4, nil},
		{1, "1D FC CF 1A", 3, nil},
		{3, "00 01 02 03 04 05 06 07 08 09", 10, nil},
		{1024, "00 00 00 00 00 00 00 00 00", 9, nil},
		// One frame, with nothing and with other bytes around it.
		{1, "1ACFFC1D FF", 0, []string{"00"}},
		{1, "33 1ACFFC1D 00", 1, []string{"FF"}},
		{1, "1ACFFC1D 00 33", 1, []string{"FF"}},
		{1, "33 44 1ACFFC1D 00 33", 3, []string{"FF"}},
		{5, "1ACFFC1D FF480EC09A", 0, []string{"0000000000"}},
		{5, "00 1ACFFC1D 0000000000 0000", 3, []string{"FF480EC09A"}},
		// Two frames and more.
		{1, "1ACFFC1D 00 1ACFFC1D FF", 0, []string{"FF", "00"}},
		{1, "11 1ACFFC1D 00 22 33 1ACFFC1D FF 44 55 66", 6, []string{"FF", "00"}},
		{2, "1ACFFC1D FF48 1ACFFC1D FF49 1ACFFC1D FF4A", 0, []string{"0000", "0001", "0002"}},
		{2, "1ACFFC1D FF48 FF 1ACFFC1D FF49 FF48 1ACFFC1D FF4A FF480E", 6, []string{"0000", "0001", "0002"}},
		// An incomplete frame.
		{1, "1ACFFC1D", 0, nil},
		{2, "1ACFFC1D FF", 0, nil},
		{2, "33 1ACFFC1D 1A", 1, nil},
		{5, "33 1ACFFC1D 1ACFFC1D", 1, nil},
		{1024, "33 1ACFFC1D 1ACFFC1D 1ACFFC1D 1ACFFC1D", 1, nil},
		// A marker after the beginning of one.
		{1, "1A 1ACFFC1D 00", 1, []string{"FF"}},
		{1, "1A1A 1ACFFC1D 00", 2, []string{"FF"}},
		{1, "1A1A1A 1ACFFC1D 00", 3, []string{"FF"}},
		{1, "1ACF 1ACFFC1D 00", 2, []string{"FF"}},
		{1, "1ACF1A 1ACFFC1D 00", 3, []string{"FF"}},
		{1, "1ACF1ACF 1ACFFC1D 00", 4, []string{"FF"}},
		{1, "1ACFFC 1ACFFC1D 00", 3, []string{"FF"}},
		{1, "1ACFFC1A 1ACFFC1D 00", 4, []string{"FF"}},
		{1, "1ACFFC1ACF 1ACFFC1D 00", 5, []string{"FF"}},
		{1, "1ACFFC1ACFFC 1ACFFC1D 00", 6, []string{"FF"}},
		{1, "1ACFFC 1ACFFC1D 00 1ACF 1ACFFC1D FF 1A 1ACFFC1D 01", 6, []string{"FF", "00", "FE"}},
		// Bytes that begin a marker and do not continue it.
		{1, "1A00", 2, nil},
		{1, "1AFC1D00", 4, nil},
		{1, "1ACF00", 3, nil},
		{1, "1ACF1D00", 4, nil},
		{1, "1ACFCFFC1D00", 6, nil},
		{1, "1ACFFC00", 4, nil},
		{1, "1ACFFCFC1D00", 6, nil},
		{1, "1ACFFC1C1D00", 6, nil},
		{1, "1A CFCF FC1D 00 1ACFFC1D 00 1ACFFE1D", 10, []string{"FF"}},
		// The end of a stream that may begin a marker.
		{1, "1A", 0, nil},
		{1, "1ACF", 0, nil},
		{1, "1ACFFC", 0, nil},
		{1, "33 1A", 1, nil},
		{1, "1A1A", 1, nil},
		{1, "1ACF1A", 2, nil},
		{1, "1ACFFC1A", 3, nil},
		{1, "1ACF1ACF", 2, nil},
		{1, "1ACFFC1ACFFC", 3, nil},
		{1, "1ACFFC1D 00 1A", 0, []string{"FF"}},
		{1, "1ACFFC1D 00 1ACF", 0, []string{"FF"}},
		{1, "1ACFFC1D 00 1ACFFC", 0, []string{"FF"}},
		{1, "1ACFFC1D 00 1ACFFC1D", 0, []string{"FF"}},
		// A frame that contains a marker or the beginning of one.
		{4, "1ACFFC1D 1ACFFC1D", 0, []string{"E587F2DD"}},
		{4, "1ACFFC1D 1ACFFC1D 00", 1, []string{"E587F2DD"}},
		{4, "1ACFFC1D 1ACFFC1D 1ACFFC1D 00000000", 0, []string{"E587F2DD", "FF480EC0"}},
		{5, "1ACFFC1D 001ACFFC1D 00", 1, []string{"FF52C13C87"}},
		{5, "1ACFFC1D 1ACFFC1D00 00", 1, []string{"E587F2DD9A"}},
		{3, "1ACFFC1D 001A00 1ACFFC1D 1A0000", 0, []string{"FF520E", "E5480E"}},
		// A frame that ends with the beginning of a marker, which the bytes after it would continue.
		{1, "1ACFFC1D 1A CFFC1D00", 4, []string{"E5"}},
		{1, "1ACFFC1D 1A 1ACFFC1D CF", 0, []string{"E5", "30"}},
		{2, "1ACFFC1D 1ACF FC1D0000", 4, []string{"E587"}},
		{3, "1ACFFC1D 1ACFFC 1D000000", 4, []string{"E587F2"}},
		{3, "1ACFFC1D 1ACFFC 1A", 0, []string{"E587F2"}},
	} {
		var want [][]byte
		for _, frame := range c.frames {
			want = append(want, fromHex(t, frame))
		}
		expectDivided(t, c.size, fromHex(t, c.stream), c.skipped, want...)
		expectSteps(t, c.size, fromHex(t, c.stream))
	}
}

// P13.3: Skipped after each byte.
func TestSkippedSteps(t *testing.T) {
	for _, c := range []struct {
		size   int
		stream string
		want   []int
	}{
		{1, "33 1A 1A CF FC 1D FF 1A", []int{1, 1, 2, 2, 2, 2, 2, 2}},
		{1, "1A CF FC 1D FF", []int{0, 0, 0, 0, 0}},
		{1, "1A 1A CF FC 1D FF", []int{0, 1, 1, 1, 1, 1}},
		{1, "1A CF 1A CF FC 1D FF", []int{0, 0, 2, 2, 2, 2, 2}},
		{1, "1A CF FC 1A CF FC 1D FF", []int{0, 0, 0, 3, 3, 3, 3, 3}},
		{1, "1A 00", []int{0, 2}},
		{1, "1A CF 00", []int{0, 0, 3}},
		{1, "1A CF FC 00", []int{0, 0, 0, 4}},
		{1, "1A 1A 1A 1A", []int{0, 1, 2, 3}},
		{1, "1A CF CF FC 1D", []int{0, 0, 3, 4, 5}},
		{2, "00 1A CF FC 1D 1A CF FC 1D 1A CF FC 00", []int{1, 1, 1, 1, 1, 1, 1, 2, 3, 3, 3, 3, 7}},
		{1, "1A CF FC 1D 1A CF FC 1D", []int{0, 0, 0, 0, 0, 1, 2, 3}},
		{3, "1A CF FC 1D 00 00 00 00 00 1A", []int{0, 0, 0, 0, 0, 0, 0, 1, 2, 2}},
	} {
		f := finder(t, c.size)
		var got []int
		for _, x := range fromHex(t, c.stream) {
			f.Feed([]byte{x})
			got = append(got, f.Skipped())
			expectSkipped(t, f, got[len(got)-1])
		}
		if !slices.Equal(got, c.want) {
			t.Errorf("frames of %d bytes, %s: Skipped is %v, want %v", c.size, c.stream, got, c.want)
		}
	}
}

// P13.2, P13.3: a byte that differs from that of the marker in one bit, in each place, makes no marker.
func TestAlmostMarker(t *testing.T) {
	for bit := range 32 {
		almost := []byte(mark)
		almost[bit/8] ^= 1 << (bit % 8)
		stream := append(append(almost, 0x55), wrapped([]byte{7})...)
		expectDivided(t, 1, stream, 5, []byte{7})
		expectSteps(t, 1, stream)
	}
}

// P13.2, P13.3: after each beginning of a marker, every byte.
func TestEveryByte(t *testing.T) {
	for n := range 5 {
		for x := range 256 {
			r := start(t, 2)
			r.feed(t, []byte(mark[:n]))
			r.feed(t, []byte{byte(x)})
			r.feed(t, wrapped([]byte{1, 2}))
			r.feed(t, wrapped([]byte{3, 4}))
			expectSteps(t, 2, r.stream[:n+7])
		}
	}
}

// P13.2: Feed of no bytes, before, in the middle of and behind a marker and a frame, changes nothing.
func TestFeedNothing(t *testing.T) {
	stream := fromHex(t, "33 1A 1ACFFC1D FF480E 44 1ACFFC1D FF480F 1A")
	want := [][]byte{{0, 0, 0}, {0, 0, 1}}
	for i := range len(stream) + 1 {
		f := finder(t, 3)
		got := f.Feed(stream[:i])
		skipped := f.Skipped()
		for _, nothing := range [][]byte{nil, {}, stream[:0], stream[i:i], nil} {
			if frames := f.Feed(nothing); len(frames) != 0 || f.Skipped() != skipped {
				t.Fatalf("Feed of no bytes after %d: %d frames, and Skipped() = %d, before %d", i, len(frames), f.Skipped(), skipped)
			}
		}
		expectFrames(t, "Feed", append(got, f.Feed(stream[i:])...), want)
		expectSkipped(t, f, 3)
	}
}

// P13.2: a call completes no frame, one, or several, in their order; only those whose last byte it was given.
func TestFramesOfCall(t *testing.T) {
	frames := [][]byte{{1, 2}, {3, 4}, {5, 6}, {7, 8}, {9, 10}, {11, 12}}
	var stream []byte
	for _, frame := range frames {
		stream = append(stream, wrapped(frame)...)
	}
	f := finder(t, 2)
	expectFeed(t, f, stream[:5], 0)
	expectFeed(t, f, stream[5:6], 0, frames[0])
	expectFeed(t, f, stream[6:11], 0)
	expectFeed(t, f, stream[11:19], 0, frames[1:3]...)
	expectFeed(t, f, nil, 0)
	expectFeed(t, f, stream[19:36], 0, frames[3:6]...)
	expectFeed(t, f, stream[:35], 0, frames[:5]...)
	expectFeed(t, f, stream[35:], 0, frames[5])
	expectDivided(t, 2, stream, 0, frames...)
}

// P13.2: a marker and a frame that are divided among more than two calls, at any two places.
func TestTwoPlaces(t *testing.T) {
	stream := fromHex(t, "1A 1ACFFC1D 1ACFFC1D00 CF 1ACFFC1D FF480EC09A 1ACF")
	for i := range len(stream) + 1 {
		for j := i; j <= len(stream); j++ {
			r := start(t, 5)
			r.feed(t, stream[:i])
			r.feed(t, stream[i:j])
			r.feed(t, stream[j:])
		}
	}
	expectDivided(t, 5, stream, 2, fromHex(t, "E587F2DD9A"), make([]byte, 5))
}

// P13.3: a long stream without any marker is skipped, but for what may begin a marker.
func TestNoMarker(t *testing.T) {
	for _, size := range []int{1, 4, largest} {
		f := finder(t, size)
		for i := range 1000 {
			expectFeed(t, f, []byte{0x1A, 0xCF, 0xFC, 0x1A, 0xCF, 0x1D, 0xFC}, 7*(i+1))
		}
		expectFeed(t, f, bytes.Repeat([]byte{0x1A}, 5000), 7000+4999)
		expectFeed(t, f, make([]byte, 1<<16), 12000+1<<16)
	}
}

// P13.2, P13.3, P13.4: streams of few different bytes, all short ones and many longer ones, each answered as the chapter says.
func TestFewBytes(t *testing.T) {
	alphabet := []byte(mark + "\x00")
	for number := range 5 * 5 * 5 * 5 * 5 * 5 {
		stream := make([]byte, 6)
		for i, n := 0, number; i < 6; i, n = i+1, n/5 {
			stream[i] = alphabet[n%5]
		}
		r := start(t, 1+number%2)
		for _, x := range stream {
			r.feed(t, []byte{x})
		}
	}
	next := pseudo(3)
	for i := range 1000 {
		expectSteps(t, 1+i%9, fewBytes(next, int(next()%40)))
	}
}

// P13.2, P13.3, P13.4: long streams of few different bytes, in pieces of all kinds of lengths.
func TestLongStreams(t *testing.T) {
	next := pseudo(4)
	for _, size := range []int{1, 2, 3, 4, 5, 6, 7, 8, 9, 16, 100, 1023, 1024} {
		stream := fewBytes(next, 3*1024+20*size)
		want, skipped := answer(stream, size)
		if len(want) < 3 {
			t.Fatal("the test has too few frames")
		}
		for _, most := range []uint64{1, 2, 5, 50, 500, 5000} {
			f := finder(t, size)
			var got [][]byte
			for rest := stream; len(rest) > 0; {
				n := min(int(next()%(most+1)), len(rest))
				got = append(got, f.Feed(rest[:n])...)
				rest = rest[n:]
			}
			expectFrames(t, "Feed", got, want)
			expectSkipped(t, f, skipped)
		}
		expectFeed(t, finder(t, size), stream, skipped, want...)
	}
}

// fillers are sequences in which no marker begins, also if a marker follows.
func fillers(next func() uint64) [][]byte {
	list := [][]byte{
		nil, {0}, {0x33, 0x44}, []byte(mark[:1]), []byte(mark[:2]), []byte(mark[:3]), []byte(mark[1:]), []byte(mark[2:]),
		[]byte(mark[:1] + mark[:1]), []byte(mark[:2] + mark[:2]), []byte(mark[:3] + mark[:3]), []byte(mark[:3] + "\x1A\x00"),
	}
	for len(list) < 30 {
		if b := fewBytes(next, int(next()%20)); !bytes.Contains(b, []byte(mark)) {
			list = append(list, b)
		}
	}
	return list
}

// P13.4: a stream of what Wrap returns, with sequences in which no marker begins, gives exactly the frames.
func TestWrappedFrames(t *testing.T) {
	next := pseudo(5)
	list := fillers(next)
	filler := func() []byte { return list[next()%uint64(len(list))] }
	for i := range 300 {
		size := []int{1, 2, 3, 4, 5, 8, 13}[i%7]
		var stream []byte
		var frames [][]byte
		skipped := 0
		for range next() % 6 {
			// Half of the frames look like markers when they are wrapped.
			frame := someBytes(next, size)
			if next()%2 == 0 {
				frame = mixed(fewBytes(next, size))
			}
			b := filler()
			frames = append(frames, frame)
			stream = slices.Concat(stream, b, marker.Wrap(frame))
			skipped += len(b)
		}
		expectDivided(t, size, stream, skipped, frames...)
		last := filler()
		expectDivided(t, size, append(stream, last...), skipped+len(last)-opening(last), frames...)
	}
}

// P13.4: many frames of the greatest size, with nothing and with other bytes between them.
func TestManyFrames(t *testing.T) {
	next := pseudo(6)
	list := fillers(next)
	for _, size := range []int{1, 7, 1023, 1024} {
		var plain, filled []byte
		var frames [][]byte
		skipped := 0
		for range 200 {
			frame := someBytes(next, size)
			b := list[next()%uint64(len(list))]
			frames = append(frames, frame)
			plain = append(plain, marker.Wrap(frame)...)
			filled = slices.Concat(filled, b, marker.Wrap(frame))
			skipped += len(b)
		}
		expectFeed(t, finder(t, size), plain, 0, frames...)
		expectFeed(t, finder(t, size), filled, skipped, frames...)
		f := finder(t, size)
		var got [][]byte
		for _, x := range filled {
			got = append(got, f.Feed([]byte{x})...)
		}
		expectFrames(t, "Feed", got, frames)
		expectSkipped(t, f, skipped)
	}
}

// P13.2, P13.3 and the rule Objects: a copy at any place of a stream, and its original, go on independently.
func TestClone(t *testing.T) {
	stream := fromHex(t, "33 1ACF 1ACFFC1D 1ACFFC1D00 44 1ACFFC1D FF480EC09A 1ACF")
	next := pseudo(7)
	for i := range len(stream) + 1 {
		for range 20 {
			r := start(t, 5)
			r.feed(t, stream[:i])
			expectCopies(t, r, stream[i:], fewBytes(next, 30))
		}
	}
}

// expectCopies feeds r and copies of it different bytes, in turns.
func expectCopies(t *testing.T, r *run, one, two []byte) {
	t.Helper()
	copied := r.clone(t)
	kept := copied.clone(t)
	for i := range max(len(one), len(two)) {
		r.feed(t, one[min(i, len(one)):min(i+1, len(one))])
		copied.feed(t, two[min(i, len(two)):min(i+1, len(two))])
	}
	last := kept.clone(t)
	kept.feed(t, two)
	last.feed(t, one)
	last.feed(t, nil)
}

// P13.1 and the rule Objects: a copy of a new Finder is a new Finder of frames of the same size.
func TestCloneSize(t *testing.T) {
	next := pseudo(8)
	for _, size := range []int{1, 2, 3, 4, 5, 100, 1023, 1024} {
		frame := someBytes(next, size)
		f := finder(t, size)
		copied := f.Clone()
		expectSkipped(t, copied, 0)
		expectFeed(t, copied, wrapped(frame)[:3+size], 0)
		again := copied.Clone()
		expectFeed(t, copied, wrapped(frame)[3+size:], 0, frame)
		expectFeed(t, f, append([]byte{0}, wrapped(frame)...), 1, frame)
		expectSkipped(t, copied, 0)
		expectFeed(t, again, wrapped(frame)[3+size:], 0, frame)
	}
}

// expectNothing checks that f has no frames, skips nothing and has no copy.
func expectNothing(t *testing.T, f *marker.Finder) {
	t.Helper()
	for range 2 {
		for _, b := range [][]byte{nil, {}, {0x33}, []byte(mark), {0}, wrapped([]byte{1}), wrapped(nil), make([]byte, 3000)} {
			expectFeed(t, f, b, 0)
		}
		if f.Clone() != nil {
			t.Fatal("Clone() is not nil")
		}
	}
}

// The rule Nil objects: a nil Finder.
func TestNilFinder(t *testing.T) {
	expectNothing(t, nil)
	expectNothing(t, marker.NewFinder(0))
}

// The rule Nil objects: a Finder that NewFinder did not return; the calls leave it as it was.
func TestZeroFinder(t *testing.T) {
	var f marker.Finder
	expectNothing(t, &f)
	expectNothing(t, new(marker.Finder))
	expectNothing(t, &f)
}

// The rule Memory: Feed changes neither its argument nor the bytes behind it.
func TestFeedArgumentUnchanged(t *testing.T) {
	next := pseudo(9)
	for i := range 500 {
		room := fewBytes(next, 60)
		kept := bytes.Clone(room)
		f := finder(t, 1+i%9)
		n := int(next() % 30)
		f.Feed(room[:n])
		f.Feed(room[n : n+20])
		expectBytes(t, "the argument", room, kept)
	}
}

// The rule Memory: the argument of Feed may change after the call, also in the middle of a marker and of a frame.
func TestFeedArgumentNotRetained(t *testing.T) {
	next := pseudo(10)
	for i := range 500 {
		size := 1 + i%9
		stream := fewBytes(next, 100)
		want, skipped := answer(stream, size)
		f := finder(t, size)
		var got [][]byte
		buffer := make([]byte, 8)
		for piece := range slices.Chunk(stream, 1+int(next()%8)) {
			n := copy(buffer, piece)
			got = append(got, f.Feed(buffer[:n])...)
			for j := range buffer {
				buffer[j] ^= 0xA5
			}
		}
		expectFrames(t, "Feed", got, want)
		expectSkipped(t, f, skipped)
	}
}

// The rule Memory: a frame that has been returned may change, and longer ones may be made of it, without any effect on its
// argument, on other frames or on later ones; and later calls do not change it.
func TestFramesNotShared(t *testing.T) {
	for _, size := range []int{1, 2, 3, 8, 100, 1024} {
		next := pseudo(11)
		frames := [][]byte{someBytes(next, size), someBytes(next, size), someBytes(next, size), someBytes(next, size)}
		stream := slices.Concat(wrapped(frames[0]), wrapped(frames[1]), wrapped(frames[2])[:3+size])
		rest := append(wrapped(frames[2])[3+size:], wrapped(frames[3])...)
		kept := bytes.Clone(stream)
		f := finder(t, size)
		one := f.Feed(stream)
		two := f.Clone()
		spoil(one[0])
		_ = append(one, []byte{1})
		expectBytes(t, "the argument", stream, kept)
		expectFrames(t, "another frame", one[1:], frames[1:2])
		later := f.Feed(rest)
		expectFrames(t, "later frames", later, frames[2:])
		expectFrames(t, "another frame", one[1:], frames[1:2])
		spoil(one[1])
		spoil(later[1])
		expectFrames(t, "another frame", later[:1], frames[2:3])
		expectFrames(t, "frames of a copy", two.Feed(rest), frames[2:])
		expectFrames(t, "frames of another Finder", finder(t, size).Feed(stream), frames[:2])
	}
}

// spoil changes b, and what is behind it in its memory.
func spoil(b []byte) {
	b = b[:cap(b)]
	for i := range b {
		b[i] ^= 0x5A
	}
}

// The rule Memory: the argument of Wrap is not changed, and may change after the call; so may the result.
func TestWrapNotShared(t *testing.T) {
	next := pseudo(12)
	for _, n := range []int{0, 1, 2, 3, 4, 5, 28, 100, 255, 256, 1024, 1025, 3000} {
		room := someBytes(next, n+16)
		kept := bytes.Clone(room)
		one, two := marker.Wrap(room[:n]), marker.Wrap(room[:n])
		want := wrapped(kept[:n])
		expectBytes(t, "the argument", room, kept)
		spoil(room)
		expectBytes(t, "Wrap after a change of its argument", one, want)
		copy(room, kept)
		spoil(one)
		expectBytes(t, "the argument after a change of the result", room, kept)
		expectBytes(t, "another result", two, want)
		expectBytes(t, "a later result", marker.Wrap(room[:n]), want)
	}
}
