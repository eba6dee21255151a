package parts_test

import (
	"bytes"
	"fmt"
	"math"
	"testing"

	"spacecraft/api"
	"spacecraft/packet"
	"spacecraft/parts"
)

const (
	least    = math.MinInt
	greatest = math.MaxInt
	// mostPiece is the greatest number of bytes of a piece.
	mostPiece = 4090
)

// pseudo returns numbers that follow no simple rule but are the same in every run.
func pseudo() func() uint64 {
	x := uint64(0x9E3779B97F4A7C15)
	return func() uint64 {
		x ^= x << 13
		x ^= x >> 7
		x ^= x << 17
		return x >> 20
	}
}

// someBytes returns size bytes that follow no rule.
func someBytes(next func() uint64, size int) []byte {
	b := make([]byte, size)
	for i := range b {
		b[i] = byte(next())
	}
	return b
}

// counting returns size bytes none of which is equal to its neighbours, and of which no half is equal to the other.
func counting(size int) []byte {
	b := make([]byte, size)
	for i := range b {
		b[i] = byte(i*7 + i/256 + 1)
	}
	return b
}

// pack returns a packet of telemetry.
func pack(flags, apid, count int, data string) api.Packet {
	return api.Packet{Apid: apid, Flags: flags, Count: count, Data: []byte(data)}
}

// clone returns p with data of its own.
func clone(p api.Packet) api.Packet {
	p.Data = bytes.Clone(p.Data)
	return p
}

func same(p, q api.Packet) bool {
	return p.Command == q.Command && p.Secondary == q.Secondary && p.Apid == q.Apid && p.Flags == q.Flags &&
		p.Count == q.Count && bytes.Equal(p.Data, q.Data)
}

func samePackets(a, b []api.Packet) bool {
	for i := range min(len(a), len(b)) {
		if !same(a[i], b[i]) {
			return false
		}
	}
	return len(a) == len(b)
}

// head returns the first bytes of b, which are enough for a message.
func head(b []byte) []byte { return b[:min(len(b), 16)] }

func show(p api.Packet) string {
	return fmt.Sprintf("{Command %t, Secondary %t, Apid %d, Flags %d, Count %d, %d bytes: % X}",
		p.Command, p.Secondary, p.Apid, p.Flags, p.Count, len(p.Data), head(p.Data))
}

// divisible reports whether Split accepts its arguments (P11.1), one condition after the other.
func divisible(p api.Packet, data []byte, most int) bool {
	switch {
	case p.Apid < 0 || p.Apid >= 2047:
		return false
	case p.Count < 0 || p.Count >= 16384:
		return false
	case most < 1 || most >= 4091:
		return false
	}
	return len(data) > 0
}

// division is P11.1 for accepted arguments: each packet is computed from its place.
func division(p api.Packet, data []byte, most int) []api.Packet {
	all := (len(data) + most - 1) / most
	var packets []api.Packet
	for i := range all {
		q := api.Packet{Command: p.Command, Secondary: p.Secondary, Apid: p.Apid, Count: (p.Count + i) % 16384}
		switch {
		case all == 1:
			q.Flags = 3
		case i == 0:
			q.Flags = 1
		case i == all-1:
			q.Flags = 2
		}
		q.Data = bytes.Clone(data[i*most : min(i*most+most, len(data))])
		packets = append(packets, q)
	}
	return packets
}

// expectAnswer checks the answer of Split, and that its arguments stay as they are.
func expectAnswer(t *testing.T, p api.Packet, data []byte, most int, want []api.Packet, wantErr api.Errno) {
	t.Helper()
	before, dataBefore := clone(p), bytes.Clone(data)
	got, err := parts.Split(p, data, most)
	if err != wantErr || len(got) != len(want) {
		t.Fatalf("Split(%s, %d bytes, %d) = %d packets, %d, want %d, %d", show(p), len(data), most, len(got), err, len(want), wantErr)
	}
	for i := range want {
		if !same(got[i], want[i]) {
			t.Fatalf("Split(%s, %d bytes, %d)[%d] = %s, want %s", show(p), len(data), most, i, show(got[i]), show(want[i]))
		}
	}
	if !same(p, before) || !bytes.Equal(data, dataBefore) {
		t.Fatalf("Split(%s, %d bytes, %d) changed its arguments", show(before), len(data), most)
	}
}

// expectSplit checks that Split accepts its arguments and does with them what the chapter says.
func expectSplit(t *testing.T, p api.Packet, data []byte, most int) {
	t.Helper()
	expectAnswer(t, p, data, most, division(p, data, most), api.OK)
}

// expectRefused checks that Split returns no packets but an error.
func expectRefused(t *testing.T, p api.Packet, data []byte, most int) {
	t.Helper()
	expectAnswer(t, p, data, most, nil, api.ErrArg)
}

// split returns what Split returns for arguments that it accepts.
func split(t *testing.T, p api.Packet, data []byte, most int) []api.Packet {
	t.Helper()
	packets, err := parts.Split(p, data, most)
	if err != api.OK {
		t.Fatalf("Split(%s, %d bytes, %d) = %d", show(p), len(data), most, err)
	}
	return packets
}

// expectPending checks Pending, which changes nothing.
func expectPending(t *testing.T, j *parts.Joiner, want int) {
	t.Helper()
	for range 2 {
		if got := j.Pending(); got != want {
			t.Fatalf("Pending() = %d, want %d", got, want)
		}
	}
}

// expectTake checks the answer of Take, that the packet stays as it is, and what is in progress then.
func expectTake(t *testing.T, j *parts.Joiner, p api.Packet, want []byte, wantOk bool, wantErr api.Errno, pending int) {
	t.Helper()
	before := clone(p)
	got, ok, err := j.Take(p)
	if !bytes.Equal(got, want) || ok != wantOk || err != wantErr {
		t.Fatalf("Take(%s) = %d bytes: % X, %t, %d, want %d bytes: % X, %t, %d",
			show(p), len(got), head(got), ok, err, len(want), head(want), wantOk, wantErr)
	}
	if !same(p, before) {
		t.Fatalf("Take changed %s to %s", show(before), show(p))
	}
	expectPending(t, j, pending)
}

// expectMore takes a packet that is accepted and completes no message.
func expectMore(t *testing.T, j *parts.Joiner, p api.Packet, pending int) {
	t.Helper()
	expectTake(t, j, p, nil, false, api.OK, pending)
}

// expectMessage takes a packet that completes a message.
func expectMessage(t *testing.T, j *parts.Joiner, p api.Packet, want string) {
	t.Helper()
	expectTake(t, j, p, []byte(want), true, api.OK, 0)
}

// expectLost takes a packet that is refused and with which the message in progress is lost.
func expectLost(t *testing.T, j *parts.Joiner, p api.Packet, err api.Errno) {
	t.Helper()
	expectTake(t, j, p, nil, false, err, 0)
}

// expectIgnored takes a packet that is refused with ErrArg and changes nothing.
func expectIgnored(t *testing.T, j *parts.Joiner, p api.Packet) {
	t.Helper()
	expectTake(t, j, p, nil, false, api.ErrArg, j.Pending())
}

// expectWorks checks that a message of two packets can be taken, of which there are none before and after.
func expectWorks(t *testing.T, j *parts.Joiner) {
	t.Helper()
	expectMore(t, j, pack(api.First, 7, 100, "x"), 1)
	expectMessage(t, j, pack(api.Last, 7, 101, "y"), "xy")
}

// begun returns a Joiner that has taken the first two packets of the application process 10, with the text abcd and the
// counts 50 and 51.
func begun(t *testing.T, most int) *parts.Joiner {
	t.Helper()
	j := parts.NewJoiner(most)
	expectMore(t, j, pack(api.First, 10, 50, "ab"), 2)
	expectMore(t, j, pack(api.Middle, 10, 51, "cd"), 4)
	return j
}

// expectBegun checks that the message of begun can be continued and completed.
func expectBegun(t *testing.T, j *parts.Joiner) {
	t.Helper()
	expectPending(t, j, 4)
	expectMore(t, j, pack(api.Middle, 10, 52, "e"), 5)
	expectMessage(t, j, pack(api.Last, 10, 53, "f"), "abcdef")
}

// P11.1, P11.3, P11.5: the chapter's examples.
func TestExamples(t *testing.T) {
	p := api.Packet{Apid: 3, Count: 16383}
	expectAnswer(t, p, []byte("abcde"), 2, []api.Packet{
		pack(api.First, 3, 16383, "ab"), pack(api.Middle, 3, 0, "cd"), pack(api.Last, 3, 1, "e"),
	}, api.OK)

	packets := split(t, p, []byte("abcde"), 2)
	j := parts.NewJoiner(100)
	expectMore(t, j, packets[0], 2)
	expectLost(t, j, packets[2], api.ErrForm)
	expectPending(t, j, 0)
}

// P11.1: packets that are written out, from each of Command and Secondary.
func TestWrittenOut(t *testing.T) {
	for _, command := range []bool{false, true} {
		for _, secondary := range []bool{false, true} {
			for _, c := range []struct {
				data   string
				count  int
				most   int
				pieces []api.Packet
			}{
				{"a", 0, 1, []api.Packet{pack(3, 10, 0, "a")}},
				{"a", 16383, 4090, []api.Packet{pack(3, 10, 16383, "a")}},
				{"abc", 5, 4, []api.Packet{pack(3, 10, 5, "abc")}},
				{"abcd", 5, 4, []api.Packet{pack(3, 10, 5, "abcd")}},
				{"abcde", 5, 4, []api.Packet{pack(1, 10, 5, "abcd"), pack(2, 10, 6, "e")}},
				{"abcdefgh", 5, 4, []api.Packet{pack(1, 10, 5, "abcd"), pack(2, 10, 6, "efgh")}},
				{"abcdefghi", 5, 4, []api.Packet{pack(1, 10, 5, "abcd"), pack(0, 10, 6, "efgh"), pack(2, 10, 7, "i")}},
				{"abcdef", 8191, 2, []api.Packet{pack(1, 10, 8191, "ab"), pack(0, 10, 8192, "cd"), pack(2, 10, 8193, "ef")}},
				{"abcd", 255, 1, []api.Packet{pack(1, 10, 255, "a"), pack(0, 10, 256, "b"), pack(0, 10, 257, "c"), pack(2, 10, 258, "d")}},
				{"abc", 16382, 1, []api.Packet{pack(1, 10, 16382, "a"), pack(0, 10, 16383, "b"), pack(2, 10, 0, "c")}},
				{"ab", 16382, 1, []api.Packet{pack(1, 10, 16382, "a"), pack(2, 10, 16383, "b")}},
				{"ab", 16383, 1, []api.Packet{pack(1, 10, 16383, "a"), pack(2, 10, 0, "b")}},
				{"\x00\x00\xFF", 1, 2, []api.Packet{pack(1, 10, 1, "\x00\x00"), pack(2, 10, 2, "\xFF")}},
			} {
				for i := range c.pieces {
					c.pieces[i].Command, c.pieces[i].Secondary = command, secondary
				}
				p := api.Packet{Command: command, Secondary: secondary, Apid: 10, Count: c.count}
				expectAnswer(t, p, []byte(c.data), c.most, c.pieces, api.OK)
			}
		}
	}
}

// P11.1: data of every size around the first multiples of most, in pieces of all kinds of sizes.
func TestSizes(t *testing.T) {
	data := counting(3*mostPiece + 2)
	for _, most := range []int{1, 2, 3, 4, 10, 255, 256, 257, 1000, mostPiece - 1, mostPiece} {
		p := api.Packet{Command: true, Apid: 10, Count: 16382}
		expectRefused(t, p, nil, most)
		expectRefused(t, p, []byte{}, most)
		expectRefused(t, p, data[:0], most)
		for _, size := range []int{1, most - 1, most, most + 1, 2*most - 1, 2 * most, 2*most + 1, 3*most - 1, 3 * most, 3*most + 1} {
			if size > 0 {
				expectSplit(t, p, data[:size], most)
			}
		}
	}
	for size := 1; size <= 70; size++ {
		for most := 1; most <= 75; most++ {
			expectSplit(t, api.Packet{Secondary: true, Apid: 5, Count: 16383 - size%40}, data[:size], most)
		}
	}
}

// P11.1: every size of the pieces, from the least to the greatest.
func TestEveryMost(t *testing.T) {
	data := counting(2*mostPiece + 1)
	for most := 1; most <= mostPiece; most++ {
		expectSplit(t, api.Packet{Apid: most % 2047, Count: 16380}, data[:2*most+1], most)
	}
}

// P11.1: Apid, Count and most one below their least value, at their least, at their greatest, one above it, and far outside.
func TestArguments(t *testing.T) {
	for _, c := range []struct {
		name            string
		least, greatest int
		set             func(p *api.Packet, most *int, n int)
	}{
		{"Apid", 0, 2046, func(p *api.Packet, most *int, n int) { p.Apid = n }},
		{"Count", 0, 16383, func(p *api.Packet, most *int, n int) { p.Count = n }},
		{"most", 1, 4090, func(p *api.Packet, most *int, n int) { *most = n }},
	} {
		for _, data := range [][]byte{{1}, counting(7), counting(5000)} {
			with := func(n int) (api.Packet, []byte, int) {
				p, most := api.Packet{Command: true, Apid: 10, Flags: api.Whole, Count: 1, Data: []byte("zz")}, 3
				c.set(&p, &most, n)
				return p, data, most
			}
			for _, n := range []int{c.least, c.least + 1, c.greatest - 1, c.greatest} {
				p, data, most := with(n)
				expectSplit(t, p, data, most)
			}
			// Some of these have the bits of a value that is permitted, and more.
			for _, n := range []int{
				c.least - 1, c.least - 2, -2046, -2048, -4090, -16384, -16383, least, least + 1, least + 10, -1 << 32, -1<<32 + 3,
				c.greatest + 1, c.greatest + 2, 16384 + 10, 32768, 65536, 65539, 1 << 32, 1<<32 + 3, greatest - 1, greatest,
			} {
				p, data, most := with(n)
				expectRefused(t, p, data, most)
			}
		}
	}
	// the application process of idle packets, also with what an idle packet has
	for _, p := range []api.Packet{{Apid: 2047}, {Apid: 2047, Flags: 3, Data: []byte{0}}, {Apid: 2047, Count: 5, Command: true}, {Apid: 2048}} {
		expectRefused(t, p, []byte{0}, 1)
		expectRefused(t, p, []byte{0, 0, 0}, 2)
	}
	// lengths of packets and not of pieces
	for _, most := range []int{4091, 4095, 4096, 4097} {
		expectRefused(t, api.Packet{Apid: 10}, counting(10000), most)
	}
}

// P11.1: each combination of arguments that are permitted and that are not.
func TestCombinations(t *testing.T) {
	for _, apid := range []int{least, -1, 0, 2046, 2047, 2048, greatest} {
		for _, count := range []int{least, -1, 0, 16383, 16384, greatest} {
			for _, most := range []int{least, -1, 0, 1, 4090, 4091, greatest} {
				for _, data := range [][]byte{nil, {}, {7}, counting(4090), counting(4091)} {
					for _, flags := range []int{least, -1, 0, 3, 4, greatest} {
						p := api.Packet{Apid: apid, Flags: flags, Count: count}
						if divisible(p, data, most) {
							expectSplit(t, p, data, most)
						} else {
							expectRefused(t, p, data, most)
						}
					}
				}
			}
		}
	}
}

// P11.1: Flags and Data of p do not matter, also when they are out of range.
func TestFlagsAndData(t *testing.T) {
	for _, size := range []int{1, 2, 3, 4, 9} {
		data := counting(size)
		want := division(api.Packet{Secondary: true, Apid: 2046, Count: 9}, data, 2)
		for _, flags := range []int{0, 1, 2, 3, -1, -2, -4, 4, 5, 7, 8, 255, 256, 1 << 32, least, least + 1, greatest - 1, greatest} {
			for _, held := range [][]byte{nil, {}, {0}, []byte("pqrs"), make([]byte, 4090), make([]byte, 4091), counting(70000), data, data[:1]} {
				p := api.Packet{Secondary: true, Apid: 2046, Flags: flags, Count: 9, Data: held}
				expectAnswer(t, p, data, 2, want, api.OK)
				expectRefused(t, p, nil, 2)
			}
		}
	}
}

// P11.1: all counts, and so many pieces that the counts go round several times.
func TestCounts(t *testing.T) {
	for count := range 16384 {
		expectSplit(t, api.Packet{Apid: 1, Count: count}, counting(5), 2)
	}
	for _, count := range []int{0, 1, 8000, 16382, 16383} {
		packets := split(t, api.Packet{Apid: 1, Count: count}, counting(40000), 1)
		if !samePackets(packets, division(api.Packet{Apid: 1, Count: count}, counting(40000), 1)) {
			t.Fatalf("40000 pieces from the count %d on are wrong", count)
		}
		for _, size := range []int{16383, 16384, 16385, 16386} {
			expectSplit(t, api.Packet{Apid: 1, Count: count}, counting(size), 1)
		}
	}
	expectSplit(t, api.Packet{Apid: 1, Count: 16000}, counting(1<<20+1), 7)
	expectSplit(t, api.Packet{Apid: 1, Count: 16000}, counting(1<<20), mostPiece)
}

// P11.1: every packet can be encoded.
func TestPiecesAreValid(t *testing.T) {
	for _, c := range []struct {
		p    api.Packet
		size int
		most int
	}{
		{api.Packet{}, 1, 1}, {api.Packet{Command: true, Secondary: true, Apid: 2046, Flags: 9, Count: 16383}, 9000, 4090},
		{api.Packet{Apid: 100, Flags: -1, Count: 77}, 300, 7},
	} {
		for _, p := range split(t, c.p, counting(c.size), c.most) {
			if !packet.Valid(p) {
				t.Fatalf("%s is not valid", show(p))
			}
		}
	}
}

// P11.2, P11.3: limits of all kinds: a message of just as many bytes, and one of a byte more, in one, two and three packets.
func TestLimits(t *testing.T) {
	for _, c := range []struct{ most, limit int }{
		{least, 0}, {least + 1, 0}, {-1 << 32, 0}, {-4096, 0}, {-2, 0}, {-1, 0}, {0, 0}, {1, 1}, {2, 2}, {3, 3}, {4, 4}, {100, 100},
		{255, 255}, {256, 256}, {4089, 4089}, {4090, 4090}, {4091, 4091}, {5000, 5000}, {65536, 65536},
	} {
		j := parts.NewJoiner(c.most)
		if j == nil {
			t.Fatalf("NewJoiner(%d) is nil", c.most)
		}
		expectPending(t, j, 0)
		data := string(counting(c.limit + 1))
		rest := min(c.limit, 1)
		for range 2 {
			expectLost(t, j, pack(api.Whole, 9, 0, data), api.ErrLong)
			expectLost(t, j, pack(api.First, 9, 1, data), api.ErrLong)
			expectLost(t, j, pack(api.Last, 9, 2, "a"), api.ErrForm)
			if c.limit == 0 {
				continue
			}
			expectMessage(t, j, pack(api.Whole, 9, 2, data[:c.limit]), data[:c.limit])
			expectMore(t, j, pack(api.First, 9, 3, data[:c.limit]), c.limit)
			expectLost(t, j, pack(api.Middle, 9, 4, data[c.limit:]), api.ErrLong)
			expectMore(t, j, pack(api.First, 9, 5, data[:c.limit]), c.limit)
			expectLost(t, j, pack(api.Last, 9, 6, data[c.limit:]), api.ErrLong)
			expectMore(t, j, pack(api.First, 9, 7, data[:rest]), rest)
			expectLost(t, j, pack(api.Last, 9, 8, data[:c.limit]), api.ErrLong)
			if c.limit == 1 {
				continue
			}
			expectMore(t, j, pack(api.First, 9, 7, data[:1]), 1)
			expectMessage(t, j, pack(api.Last, 9, 8, data[1:c.limit]), data[:c.limit])
			expectMore(t, j, pack(api.First, 9, 7, data[:1]), 1)
			expectMore(t, j, pack(api.Middle, 9, 8, data[1:c.limit]), c.limit)
			expectLost(t, j, pack(api.Last, 9, 9, "a"), api.ErrLong)
		}
	}
}

// P11.2, P11.3: a Joiner with the greatest limit, whose messages are longer than any packet.
func TestGreatestLimit(t *testing.T) {
	for _, most := range []int{greatest, greatest - 1, 1 << 32, 1 << 20} {
		j := parts.NewJoiner(most)
		expectPending(t, j, 0)
		expectMessage(t, j, pack(api.Whole, 9, 2, "a"), "a")
		data := string(counting(1 << 18))
		expectMore(t, j, pack(api.First, 9, 2, data), 1<<18)
		expectMore(t, j, pack(api.Middle, 9, 3, data), 2<<18)
		expectMore(t, j, pack(api.Middle, 9, 4, data), 3<<18)
		expectMessage(t, j, pack(api.Last, 9, 5, data), data+data+data+data)
		expectWorks(t, j)
	}
}

// P11.3: data that are longer than those of any packet are taken, as only the limit counts.
func TestLongData(t *testing.T) {
	for _, size := range []int{4090, 4091, 4096, 4097, 65536, 65537} {
		data := string(counting(size))
		j := parts.NewJoiner(2 * size)
		expectMessage(t, j, pack(api.Whole, 9, 2, data), data)
		expectMore(t, j, pack(api.First, 9, 2, data), size)
		expectMessage(t, j, pack(api.Last, 9, 3, data), data+data)
		short := parts.NewJoiner(size - 1)
		expectLost(t, short, pack(api.Whole, 9, 2, data), api.ErrLong)
		expectLost(t, short, pack(api.First, 9, 2, data), api.ErrLong)
	}
}

// P11.2, P11.3: messages of one, two, three and more packets one after the other, with Pending between them.
func TestOrdinary(t *testing.T) {
	j := parts.NewJoiner(64)
	expectPending(t, j, 0)
	expectMessage(t, j, pack(api.Whole, 10, 5, "alone"), "alone")
	expectMore(t, j, pack(api.First, 10, 6, "ab"), 2)
	expectMessage(t, j, pack(api.Last, 10, 7, "cde"), "abcde")
	expectMore(t, j, pack(api.First, 10, 8, "abc"), 3)
	expectMore(t, j, pack(api.Middle, 10, 9, "d"), 4)
	expectMessage(t, j, pack(api.Last, 10, 10, "efgh"), "abcdefgh")
	expectMore(t, j, pack(api.First, 10, 11, "a"), 1)
	expectMore(t, j, pack(api.Middle, 10, 12, "bc"), 3)
	expectMore(t, j, pack(api.Middle, 10, 13, "\x00"), 4)
	expectMore(t, j, pack(api.Middle, 10, 14, "d"), 5)
	expectMessage(t, j, pack(api.Last, 10, 15, "e"), "abc\x00de")
	// the counts of different messages, and their application processes, have nothing to do with each other
	expectMessage(t, j, pack(api.Whole, 0, 3, "\x00"), "\x00")
	expectMore(t, j, pack(api.First, 2046, 3, "ab"), 2)
	expectMessage(t, j, pack(api.Last, 2046, 4, "cd"), "abcd")
	expectMessage(t, j, pack(api.Whole, 10, 3, "x"), "x")
}

// P11.3: Command and Secondary do not matter.
func TestOtherBits(t *testing.T) {
	for bits := range 64 {
		packets := []api.Packet{pack(api.First, 10, 5, "a"), pack(api.Middle, 10, 6, "b"), pack(api.Last, 10, 7, "c")}
		for i := range packets {
			packets[i].Command = bits>>(2*i)%2 == 1
			packets[i].Secondary = bits>>(2*i+1)%2 == 1
		}
		j := parts.NewJoiner(3)
		expectMore(t, j, packets[0], 1)
		expectMore(t, j, packets[1], 2)
		expectMessage(t, j, packets[2], "abc")
		packets[0].Flags = api.Whole
		expectMessage(t, j, packets[0], "a")
	}
}

// P11.3: each of the flags with no message in progress.
func TestNothingInProgress(t *testing.T) {
	fresh := func() *parts.Joiner { return parts.NewJoiner(9) }
	done := func() *parts.Joiner {
		j := begun(t, 9)
		expectBegun(t, j)
		return j
	}
	lost := func() *parts.Joiner {
		j := begun(t, 9)
		expectLost(t, j, pack(api.Last, 10, 53, "e"), api.ErrForm)
		return j
	}
	long := func() *parts.Joiner {
		j := begun(t, 9)
		expectLost(t, j, pack(api.Middle, 10, 52, "abcdef"), api.ErrLong)
		return j
	}
	for _, joiner := range []func() *parts.Joiner{fresh, done, lost, long} {
		for _, apid := range []int{0, 10, 2046} {
			for _, count := range []int{0, 1, 51, 52, 53, 54, 16383} {
				j := joiner()
				expectMessage(t, j, pack(api.Whole, apid, count, "w"), "w")
				j = joiner()
				expectMore(t, j, pack(api.First, apid, count, "f"), 1)
				expectMessage(t, j, pack(api.Last, apid, (count+1)%16384, "l"), "fl")
				for _, flags := range []int{api.Middle, api.Last} {
					for _, data := range []string{"m", "123456789", "1234567890"} {
						j = joiner()
						expectLost(t, j, pack(flags, apid, count, data), api.ErrForm)
						expectLost(t, j, pack(flags, apid, count, data), api.ErrForm)
						expectLost(t, j, pack(api.Last, apid, (count+1)%16384, data), api.ErrForm)
						expectWorks(t, j)
					}
				}
			}
		}
	}
}

// P11.3: each of the flags with a message in progress, which First and Whole end, also when they are too long.
func TestInProgress(t *testing.T) {
	// The counts and the application processes do not matter for First and Whole.
	for _, apid := range []int{10, 0, 11, 2046} {
		for _, count := range []int{52, 50, 51, 53, 0, 16383} {
			j := begun(t, 9)
			expectMessage(t, j, pack(api.Whole, apid, count, "w"), "w")
			expectLost(t, j, pack(api.Last, 10, 52, "e"), api.ErrForm)

			j = begun(t, 9)
			expectMore(t, j, pack(api.First, apid, count, "f"), 1)
			expectMessage(t, j, pack(api.Last, apid, (count+1)%16384, "l"), "fl")

			j = begun(t, 9)
			expectMessage(t, j, pack(api.Whole, apid, count, "123456789"), "123456789")
			j = begun(t, 9)
			expectMore(t, j, pack(api.First, apid, count, "12345678"), 8)
			expectMessage(t, j, pack(api.Last, apid, (count+1)%16384, "9"), "123456789")

			for _, flags := range []int{api.Whole, api.First} {
				j = begun(t, 9)
				expectLost(t, j, pack(flags, apid, count, "1234567890"), api.ErrLong)
				expectLost(t, j, pack(api.Middle, 10, 52, "e"), api.ErrForm)
				expectWorks(t, j)
			}
		}
	}
	j := begun(t, 9)
	expectMore(t, j, pack(api.Middle, 10, 52, "efgh"), 8)
	expectMessage(t, j, pack(api.Last, 10, 53, "i"), "abcdefghi")
	j = begun(t, 9)
	expectMessage(t, j, pack(api.Last, 10, 52, "e"), "abcde")
	expectLost(t, j, pack(api.Last, 10, 53, "f"), api.ErrForm)
}

// P11.3: a Middle and a Last of another application process or with another count than the next one.
func TestWrongOnes(t *testing.T) {
	for _, flags := range []int{api.Middle, api.Last} {
		for _, c := range []struct{ apid, count int }{
			{11, 52}, {9, 52}, {0, 52}, {2046, 52}, {10 + 256, 52}, {10 + 1024, 52}, // another application process
			{10, 50}, {10, 51}, {10, 53}, {10, 54}, {10, 0}, {10, 49}, {10, 52 + 8192}, {10, 52 + 256}, {10, 16383}, // another count
			{11, 51}, {9, 53}, {52, 10},
		} {
			for _, data := range []string{"e", "efghi", "efghij", "1234567890"} {
				j := begun(t, 9)
				expectLost(t, j, pack(flags, c.apid, c.count, data), api.ErrForm)
				// What would have been right comes too late.
				expectLost(t, j, pack(flags, 10, 52, "e"), api.ErrForm)
				expectLost(t, j, pack(flags, c.apid, (c.count+1)%16384, "e"), api.ErrForm)
				expectWorks(t, j)
			}
		}
	}
	// The count is that of the packet that was accepted last, and the application process that of the first one.
	j := parts.NewJoiner(9)
	expectMore(t, j, pack(api.First, 0, 0, "a"), 1)
	expectLost(t, j, pack(api.Last, 0, 0, "b"), api.ErrForm)
	expectMore(t, j, pack(api.First, 0, 0, "a"), 1)
	expectLost(t, j, pack(api.Last, 0, 2, "b"), api.ErrForm)
	expectMore(t, j, pack(api.First, 0, 0, "a"), 1)
	expectLost(t, j, pack(api.Last, 1, 1, "b"), api.ErrForm)
	expectMore(t, j, pack(api.First, 0, 0, "a"), 1)
	expectMessage(t, j, pack(api.Last, 0, 1, "b"), "ab")
}

// P11.3: counts around the end, from every count on.
func TestCountsGoRound(t *testing.T) {
	j := parts.NewJoiner(9)
	expectMore(t, j, pack(api.First, 4, 16382, "a"), 1)
	expectMore(t, j, pack(api.Middle, 4, 16383, "b"), 2)
	expectMore(t, j, pack(api.Middle, 4, 0, "c"), 3)
	expectMessage(t, j, pack(api.Last, 4, 1, "d"), "abcd")
	expectMore(t, j, pack(api.First, 4, 16383, "a"), 1)
	expectMessage(t, j, pack(api.Last, 4, 0, "b"), "ab")
	for _, count := range []int{16382, 16383, 1, 2} {
		for _, flags := range []int{api.Middle, api.Last} {
			expectMore(t, j, pack(api.First, 4, 16383, "a"), 1)
			expectLost(t, j, pack(flags, 4, count, "b"), api.ErrForm)
		}
	}
	for _, flags := range []int{api.Middle, api.Last} {
		expectMore(t, j, pack(api.First, 4, 16383, "a"), 1)
		expectIgnored(t, j, pack(flags, 4, 16384, "b"))
		expectMessage(t, j, pack(api.Last, 4, 0, "b"), "ab")
	}
	for count := range 16384 {
		expectMore(t, j, pack(api.First, 4, count, "a"), 1)
		expectMore(t, j, pack(api.Middle, 4, (count+1)%16384, "b"), 2)
		expectMessage(t, j, pack(api.Last, 4, (count+2)%16384, "c"), "abc")
	}
	// more packets than there are counts
	j = parts.NewJoiner(40000)
	data := counting(40000)
	expectMore(t, j, pack(api.First, 4, 9000, string(data[:1])), 1)
	for i := 1; i < 39999; i++ {
		expectMore(t, j, pack(api.Middle, 4, (9000+i)%16384, string(data[i:i+1])), i+1)
	}
	expectMessage(t, j, pack(api.Last, 4, (9000+39999)%16384, string(data[39999:])), string(data))
}

// outOfRange returns packets that Take ignores, made of packets that would continue or end the message of begun.
func outOfRange() []api.Packet {
	var packets []api.Packet
	add := func(p api.Packet) { packets = append(packets, p) }
	for _, flags := range []int{api.Middle, api.First, api.Last, api.Whole} {
		for _, apid := range []int{least, least + 10, -1, -2, 2047, 2048, 10 + 2048, 4096, 10 + 65536, 1<<32 + 10, greatest - 1, greatest} {
			add(pack(flags, apid, 52, "e"))
		}
		for _, count := range []int{least, least + 52, -1, -2, 16384, 16385, 52 + 16384, 32768, 52 + 65536, 1<<32 + 52, greatest - 1, greatest} {
			add(pack(flags, 10, count, "e"))
		}
		add(pack(flags, 10, 52, ""))
		add(api.Packet{Apid: 10, Flags: flags, Count: 52})
		add(api.Packet{Apid: 10, Flags: flags, Count: 52, Data: make([]byte, 0, 20)})
		// the errors that come later do not matter
		add(pack(flags, 2047, 52, "1234567890"))
		add(pack(flags, 2047, 52, "\x00"))
		add(pack(flags, 11, 16384, "1234567890"))
		add(pack(flags, 11, 20, ""))
		add(pack(flags, -1, -1, ""))
	}
	for _, flags := range []int{least, least + 1, least + 2, -1, -2, -3, -4, 4, 5, 6, 7, 8, 256, 258, 1 << 32, 1<<32 + 2, greatest - 1, greatest} {
		add(pack(flags, 10, 52, "e"))
		add(pack(flags, 11, 20, "1234567890"))
		add(pack(flags, -1, -1, ""))
	}
	add(api.Packet{Apid: 2047, Flags: api.Whole, Data: make([]byte, 5)}) // an idle packet
	return packets
}

// P11.3: packets that are out of range or empty change nothing, whether a message is in progress or not.
func TestOutOfRange(t *testing.T) {
	all := begun(t, 9)
	for _, p := range outOfRange() {
		j := begun(t, 9)
		expectIgnored(t, j, p)
		expectIgnored(t, j, p)
		expectBegun(t, j)
		expectIgnored(t, j, p)
		expectWorks(t, j)

		expectIgnored(t, all, p)

		j = parts.NewJoiner(9)
		expectIgnored(t, j, p)
		expectLost(t, j, pack(api.Last, 10, 52, "e"), api.ErrForm)

		for _, most := range []int{0, -1, least} {
			expectIgnored(t, parts.NewJoiner(most), p)
		}
	}
	expectBegun(t, all)
}

// P11.3: the least and the greatest values that are permitted.
func TestInRange(t *testing.T) {
	for _, apid := range []int{0, 1, 2045, 2046} {
		for _, count := range []int{0, 1, 16382, 16383} {
			j := parts.NewJoiner(9)
			expectMessage(t, j, pack(api.Whole, apid, count, "w"), "w")
			expectMore(t, j, pack(api.First, apid, count, "f"), 1)
			expectMore(t, j, pack(api.Middle, apid, (count+1)%16384, "m"), 2)
			expectMessage(t, j, pack(api.Last, apid, (count+2)%16384, "l"), "fml")
			expectLost(t, j, pack(api.Middle, apid, count, "m"), api.ErrForm)
			expectLost(t, j, pack(api.Last, apid, count, "l"), api.ErrForm)
		}
	}
	for apid := range 2047 {
		expectMessage(t, parts.NewJoiner(1), pack(api.Whole, apid, 0, "w"), "w")
	}
}

// P11.3: lengths around the limit with each of the flags, with a message in progress.
func TestJustTheLimit(t *testing.T) {
	data := string(counting(200))
	for most := 4; most <= 100; most++ {
		j := begun(t, most)
		expectMessage(t, j, pack(api.Whole, 10, 52, data[:most]), data[:most])
		expectMore(t, j, pack(api.First, 10, 52, data[:most]), most)
		expectLost(t, j, pack(api.Middle, 10, 53, "z"), api.ErrLong)
		for _, flags := range []int{api.First, api.Whole} {
			j = begun(t, most)
			expectLost(t, j, pack(flags, 10, 52, data[:most+1]), api.ErrLong)
		}
		for _, flags := range []int{api.Middle, api.Last} {
			j = begun(t, most)
			expectLost(t, j, pack(flags, 10, 52, data[:most-3]), api.ErrLong)
			expectLost(t, j, pack(flags, 10, 52, "e"), api.ErrForm)
			expectLost(t, j, pack(flags, 10, 53, "e"), api.ErrForm)
			expectPending(t, j, 0)
		}
		if most == 4 {
			continue
		}
		j = begun(t, most)
		expectMore(t, j, pack(api.Middle, 10, 52, data[:most-4]), most)
		expectLost(t, j, pack(api.Last, 10, 53, "z"), api.ErrLong)
		j = begun(t, most)
		expectMessage(t, j, pack(api.Last, 10, 52, data[:most-4]), "abcd"+data[:most-4])
	}
}

// P11.3: whatever went wrong, the next message is taken.
func TestAfterErrors(t *testing.T) {
	j := parts.NewJoiner(9)
	expectLost(t, j, pack(api.Middle, 10, 52, "e"), api.ErrForm)
	expectWorks(t, j)
	expectLost(t, j, pack(api.Last, 10, 52, "e"), api.ErrForm)
	expectMessage(t, j, pack(api.Whole, 10, 52, "e"), "e")
	expectLost(t, j, pack(api.Whole, 10, 52, "1234567890"), api.ErrLong)
	expectWorks(t, j)
	expectLost(t, j, pack(api.First, 10, 52, "1234567890"), api.ErrLong)
	expectLost(t, j, pack(api.Middle, 10, 53, "e"), api.ErrForm)
	expectLost(t, j, pack(api.Last, 10, 54, "e"), api.ErrForm)
	expectWorks(t, j)
	expectMore(t, j, pack(api.First, 10, 52, "123456789"), 9)
	expectLost(t, j, pack(api.Middle, 10, 53, "0"), api.ErrLong)
	expectLost(t, j, pack(api.Middle, 10, 53, "0"), api.ErrForm)
	expectLost(t, j, pack(api.Last, 10, 54, "0"), api.ErrForm)
	expectWorks(t, j)
	expectMore(t, j, pack(api.First, 10, 52, "12345678"), 8)
	expectLost(t, j, pack(api.Last, 10, 53, "90"), api.ErrLong)
	expectMessage(t, j, pack(api.Whole, 10, 54, "123456789"), "123456789")
	expectIgnored(t, j, pack(api.First, 2047, 0, "a"))
	expectWorks(t, j)
	// The limit is that of each message and not of all of them.
	for range 1000 {
		expectMessage(t, j, pack(api.Whole, 10, 54, "123456789"), "123456789")
	}
}

// P11.5: the packets of a message complete it exactly with the last one, whatever was in progress before.
func TestComplete(t *testing.T) {
	befores := []func(limit int) *parts.Joiner{
		func(limit int) *parts.Joiner { return parts.NewJoiner(limit) },
		func(limit int) *parts.Joiner {
			j := parts.NewJoiner(limit)
			j.Take(pack(api.First, 3, 16381, "q"))
			return j
		},
		func(limit int) *parts.Joiner {
			j := parts.NewJoiner(limit)
			j.Take(pack(api.First, 3, 16380, "q"))
			j.Take(pack(api.Middle, 3, 16381, "r"))
			return j
		},
		func(limit int) *parts.Joiner {
			j := parts.NewJoiner(limit)
			j.Take(pack(api.First, 2000, 0, string(make([]byte, limit))))
			return j
		},
		func(limit int) *parts.Joiner {
			j := parts.NewJoiner(limit)
			j.Take(pack(api.Last, 3, 16381, "q"))
			return j
		},
	}
	for _, before := range befores {
		for _, size := range []int{1, 2, 3, 4, 5, 6, 7, 8, 9, 31, 32, 33, 500} {
			for _, most := range []int{1, 2, 3, 4, 8, 32, 499, 500, 501, 4090} {
				for _, more := range []int{0, 1, 1000} {
					data := counting(size)
					packets := split(t, api.Packet{Secondary: true, Apid: 3, Count: 16382}, data, most)
					j := before(size + more)
					for i, p := range packets[:len(packets)-1] {
						expectMore(t, j, p, most*(i+1))
					}
					expectMessage(t, j, packets[len(packets)-1], string(data))
				}
				// With a limit that is one less, there is no message.
				j := before(size - 1)
				for i, p := range split(t, api.Packet{Apid: 3, Count: 16382}, counting(size), most) {
					if _, ok, err := j.Take(p); ok || err == api.OK && min(most*(i+1), size) >= size {
						t.Fatalf("a message of %d bytes was taken with the limit %d", size, size-1)
					}
				}
				expectPending(t, j, 0)
			}
		}
	}
}

// P11.5: if a packet is missing, at the beginning, in the middle or at the end, the message is not completed; it is when it is
// sent again.
func TestMissing(t *testing.T) {
	data := counting(23)
	for most := 1; most < 23; most++ {
		packets := split(t, api.Packet{Command: true, Apid: 3, Count: 16380}, data, most)
		for missing := range packets {
			j := parts.NewJoiner(23)
			pending := 0
			for i, p := range packets {
				switch {
				case i == missing:
				case i < missing:
					pending += len(p.Data)
					expectMore(t, j, p, pending)
				default:
					pending = 0
					expectLost(t, j, p, api.ErrForm)
				}
			}
			expectPending(t, j, pending)
			// the missing packet comes too late, unless it is the last one
			if missing > 0 && missing < len(packets)-1 {
				expectLost(t, j, packets[missing], api.ErrForm)
			}
			for i, p := range packets[:len(packets)-1] {
				expectMore(t, j, p, most*(i+1))
			}
			expectMessage(t, j, packets[len(packets)-1], string(data))
		}
	}
}

// P11.3, P11.5: a packet that is taken twice interrupts the message, except the first one, which begins it again.
func TestTwice(t *testing.T) {
	data := counting(10)
	packets := split(t, api.Packet{Apid: 3, Count: 16381}, data, 2)
	for twice := range packets {
		j := parts.NewJoiner(10)
		for i, p := range packets {
			switch {
			case i == twice && i == 0:
				expectMore(t, j, p, 2)
				expectMore(t, j, p, 2)
			case i == twice && i == len(packets)-1:
				expectMessage(t, j, p, string(data))
				expectLost(t, j, p, api.ErrForm)
			case i == twice:
				expectMore(t, j, p, 2*i+2)
				expectLost(t, j, p, api.ErrForm)
			case i > twice && twice > 0:
				expectLost(t, j, p, api.ErrForm)
			case i == len(packets)-1:
				expectMessage(t, j, p, string(data))
			default:
				expectMore(t, j, p, 2*i+2)
			}
		}
	}
	// two packets in the wrong order, and all of them backwards
	j := parts.NewJoiner(10)
	expectMore(t, j, packets[0], 2)
	expectLost(t, j, packets[2], api.ErrForm)
	expectLost(t, j, packets[1], api.ErrForm)
	expectLost(t, j, packets[3], api.ErrForm)
	expectLost(t, j, packets[4], api.ErrForm)
	expectMore(t, j, packets[0], 2)
	j = parts.NewJoiner(10)
	for i := len(packets) - 1; i > 0; i-- {
		expectLost(t, j, packets[i], api.ErrForm)
	}
	expectMore(t, j, packets[0], 2)
	// a packet alone, twice
	alone := split(t, api.Packet{Apid: 3, Count: 16381}, data, 10)[0]
	expectMessage(t, j, alone, string(data))
	expectMessage(t, j, alone, string(data))
}

// P11.3, P11.5: a message that is interrupted by another one, after each of its packets, is lost.
func TestInterrupted(t *testing.T) {
	data := counting(9)
	packets := split(t, api.Packet{Apid: 3, Count: 100}, data, 2)
	for _, other := range []api.Packet{{Apid: 3, Count: 300}, {Apid: 4, Count: 300}, {Apid: 4, Count: 100}} {
		for at := 1; at < len(packets); at++ {
			for size := 1; size <= 5; size++ {
				j := parts.NewJoiner(9)
				for i, p := range packets[:at] {
					expectMore(t, j, p, 2*i+2)
				}
				text := counting(20)[20-size:]
				between := split(t, other, text, 2)
				for i, p := range between[:len(between)-1] {
					expectMore(t, j, p, 2*i+2)
				}
				expectMessage(t, j, between[len(between)-1], string(text))
				for _, p := range packets[at:] {
					expectLost(t, j, p, api.ErrForm)
				}
			}
		}
	}
	// two messages, packet by packet in turn: neither is completed
	j := parts.NewJoiner(100)
	one, two := split(t, api.Packet{Apid: 3, Count: 100}, data, 3), split(t, api.Packet{Apid: 4, Count: 100}, data, 3)
	expectMore(t, j, one[0], 3)
	expectMore(t, j, two[0], 3)
	for i := 1; i < 3; i++ {
		expectLost(t, j, one[i], api.ErrForm)
		expectLost(t, j, two[i], api.ErrForm)
	}
}

// P11.3: a message whose end is missing is continued by another one whose beginning is missing, if the application process and
// the counts fit: what is completed then is neither of them.
func TestTwoHalves(t *testing.T) {
	one := split(t, api.Packet{Apid: 3, Count: 16382}, []byte("abcdef"), 2)
	for _, c := range []struct {
		apid, count int
		fits        bool
	}{{3, 16382, true}, {3, 16381, false}, {3, 16383, false}, {4, 16382, false}} {
		two := split(t, api.Packet{Apid: c.apid, Count: c.count}, []byte("uvwxyz"), 2)
		j := parts.NewJoiner(6)
		expectMore(t, j, one[0], 2)
		expectMore(t, j, one[1], 4)
		if c.fits {
			expectMessage(t, j, two[2], "abcdyz")
		} else {
			expectLost(t, j, two[2], api.ErrForm)
		}
	}
}

// P11.4: a clone has the same limit and the same message in progress; neither is changed by what is done to the other.
func TestClone(t *testing.T) {
	for _, swap := range []bool{false, true} {
		pair := func(j *parts.Joiner) (*parts.Joiner, *parts.Joiner) {
			o := j.Clone()
			if o == nil || o == j {
				t.Fatal("Clone returned nil or its own Joiner")
			}
			if swap {
				return o, j
			}
			return j, o
		}
		// with a message in progress
		j, o := pair(begun(t, 9))
		expectMore(t, j, pack(api.Middle, 10, 52, "xy"), 6)
		expectPending(t, o, 4)
		expectMore(t, o, pack(api.Middle, 10, 52, "e"), 5)
		expectPending(t, j, 6)
		expectMessage(t, j, pack(api.Last, 10, 53, "z"), "abcdxyz")
		expectPending(t, o, 5)
		expectMessage(t, o, pack(api.Last, 10, 53, "f"), "abcdef")
		expectLost(t, j, pack(api.Last, 10, 54, "z"), api.ErrForm)

		for _, c := range []struct {
			p   api.Packet
			err api.Errno
		}{
			{pack(api.Last, 10, 51, "e"), api.ErrForm}, {pack(api.Last, 11, 52, "e"), api.ErrForm},
			{pack(api.Last, 10, 52, "123456"), api.ErrLong}, {pack(api.First, 10, 52, "1234567890"), api.ErrLong},
		} {
			j, o = pair(begun(t, 9))
			expectLost(t, j, c.p, c.err)
			expectBegun(t, o)
			expectWorks(t, j)
		}
		j, o = pair(begun(t, 9))
		expectMessage(t, j, pack(api.Whole, 10, 52, "w"), "w")
		expectMore(t, j, pack(api.First, 11, 60, "f"), 1)
		expectBegun(t, o)
		expectMessage(t, j, pack(api.Last, 11, 61, "l"), "fl")

		// without one
		j, o = pair(parts.NewJoiner(9))
		expectPending(t, j, 0)
		expectMore(t, j, pack(api.First, 10, 5, "f"), 1)
		expectLost(t, o, pack(api.Last, 10, 6, "l"), api.ErrForm)
		expectMessage(t, j, pack(api.Last, 10, 6, "l"), "fl")
		expectWorks(t, o)

		// a clone of a clone
		j, o = pair(begun(t, 9).Clone().Clone())
		expectBegun(t, j)
		expectBegun(t, o)
	}
}

// P11.4: a clone has the limit of the original, with and without a message in progress.
func TestCloneLimit(t *testing.T) {
	for _, most := range []int{least, -1, 0, 1, 2, 9, 4090, 5000} {
		limit := max(most, 0)
		data := string(counting(limit + 1))
		o := parts.NewJoiner(most).Clone()
		expectPending(t, o, 0)
		expectLost(t, o, pack(api.Whole, 1, 1, data), api.ErrLong)
		if limit == 0 {
			continue
		}
		expectMessage(t, o, pack(api.Whole, 1, 1, data[:limit]), data[:limit])
		expectMore(t, o, pack(api.First, 1, 1, "f"), 1)
		long := o.Clone()
		expectLost(t, long, pack(api.Last, 1, 2, data[:limit]), api.ErrLong)
		if limit > 1 {
			expectMessage(t, o.Clone(), pack(api.Last, 1, 2, data[:limit-1]), "f"+data[:limit-1])
		}
		expectPending(t, o, 1)
	}
	expectMessage(t, parts.NewJoiner(greatest).Clone(), pack(api.Whole, 1, 1, string(counting(70000))), string(counting(70000)))
}

// P11.4: original and clone go on in turn, so that each writes where the other might have its message.
func TestCloneInTurn(t *testing.T) {
	for start := 1; start < 20; start++ {
		j := parts.NewJoiner(greatest)
		expectMore(t, j, pack(api.First, 1, 0, "0"), 1)
		one := "0"
		for i := 1; i < start; i++ {
			one += "ab"
			expectMore(t, j, pack(api.Middle, 1, i, "ab"), len(one))
		}
		o, two := j.Clone(), one
		for i := start; i < start+20; i++ {
			one += "x"
			expectMore(t, j, pack(api.Middle, 1, i, "x"), len(one))
			two += "yz"
			expectMore(t, o, pack(api.Middle, 1, i, "yz"), len(two))
		}
		third, three := o.Clone(), two
		expectMessage(t, j, pack(api.Last, 1, start+20, "end"), one+"end")
		expectMessage(t, o, pack(api.Last, 1, start+20, "END"), two+"END")
		expectMessage(t, third, pack(api.Last, 1, start+20, "e"), three+"e")
	}
}

// The rule Nil objects, for P11.2 to P11.4: nil Joiners and zero values do nothing, also the second time.
func TestNil(t *testing.T) {
	for _, j := range []*parts.Joiner{nil, {}, new(parts.Joiner)} {
		for range 2 {
			for _, flags := range []int{0, 1, 2, 3, 4, -1, greatest} {
				for _, p := range []api.Packet{
					pack(flags, 10, 50, "a"), pack(flags, 10, 51, "a"), pack(flags, 0, 0, "a"), pack(flags, 0, 1, "a"), pack(flags, 0, 0, ""),
					pack(flags, 2047, 0, "a"), pack(flags, -1, 0, "a"), pack(flags, 10, -1, "a"), pack(flags, 10, 0, string(counting(5000))),
				} {
					expectTake(t, j, p, nil, false, api.ErrNil, 0)
				}
			}
			if j.Clone() != nil {
				t.Fatal("Clone is not nil")
			}
		}
	}
	// A Joiner of NewJoiner is none of these, even if it takes no message.
	for _, most := range []int{0, -1, least, 1} {
		if parts.NewJoiner(most).Clone() == nil {
			t.Fatal("a Joiner of NewJoiner is taken for a zero value")
		}
		expectLost(t, parts.NewJoiner(most), pack(api.Middle, 10, 0, "a"), api.ErrForm)
		expectLost(t, parts.NewJoiner(most).Clone(), pack(api.Whole, 10, 0, "ab"), api.ErrLong)
	}
}

// overwrite changes all bytes of b, also those beyond its end that it has room for.
func overwrite(b []byte) {
	b = b[:cap(b)]
	for i := range b {
		b[i] = ^b[i]
	}
}

// The rule Memory, for P11.1: the packets share no memory with each other, with the arguments or with another result.
func TestSplitMemory(t *testing.T) {
	for _, size := range []int{1, 2, 3, 4, 9, 100} {
		for _, most := range []int{1, 2, 3, 9, 200} {
			data := append(make([]byte, 0, size+50), counting(size)...)
			p := api.Packet{Apid: 5, Count: 16383, Data: data[:1]}
			want := division(p, data, most)
			one, two := split(t, p, data, most), split(t, p, data, most)
			for i := range one {
				overwrite(one[i].Data)
				one[i].Data = append(one[i].Data, 7, 7, 7, 7)
				for j := i + 1; j < len(one); j++ {
					if !same(one[j], want[j]) {
						t.Fatalf("a change of the packet %d changed the packet %d", i, j)
					}
				}
			}
			for i := range one {
				one[i] = api.Packet{}
			}
			if !bytes.Equal(data, counting(size)) || !samePackets(two, want) {
				t.Fatal("a change of a result of Split changed the data or another result")
			}
			// backwards, as each packet may reach into the one before it too
			three := split(t, p, data, most)
			for i := len(three) - 1; i >= 0; i-- {
				overwrite(three[i].Data)
				if !samePackets(three[:i], want[:i]) {
					t.Fatalf("a change of the packet %d changed an earlier one", i)
				}
			}
			overwrite(data)
			if !samePackets(two, want) {
				t.Fatal("a change of the data changed a result of Split")
			}
			expectSplit(t, p, data, most)
		}
	}
}

// The rule Memory, for P11.3: what is done to a packet after it was taken changes no message.
func TestTakenMemory(t *testing.T) {
	j := parts.NewJoiner(100)
	take := func(flags, count int, text string) ([]byte, bool) {
		p := api.Packet{Apid: 3, Flags: flags, Count: count, Data: append(make([]byte, 0, 50), text...)}
		message, ok, err := j.Take(p)
		if err != api.OK {
			t.Fatalf("Take(%s) = %d", show(p), err)
		}
		overwrite(p.Data)
		if p.Data = append(p.Data, "zzzz"...); string(p.Data[len(text):]) != "zzzz" {
			t.Fatal("the data of a packet are in use")
		}
		return message, ok
	}
	for range 3 {
		take(api.First, 1, "ab")
		take(api.Middle, 2, "cd")
		take(api.Middle, 3, "e")
		if message, ok := take(api.Last, 4, "fg"); !ok || string(message) != "abcdefg" {
			t.Fatalf("the message is %q", message)
		}
		if message, ok := take(api.Whole, 5, "hij"); !ok || string(message) != "hij" {
			t.Fatalf("the message is %q", message)
		}
	}
	// the data of one packet for all
	data := []byte("ab")
	p := api.Packet{Apid: 3, Flags: api.First, Count: 1, Data: data}
	j.Take(p)
	copy(data, "cd")
	p.Flags, p.Count = api.Middle, 2
	j.Take(p)
	copy(data, "ef")
	p.Flags, p.Count = api.Last, 3
	if message, ok, _ := j.Take(p); !ok || string(message) != "abcdef" {
		t.Fatalf("the message is %q", message)
	}
}

// The rule Memory, for P11.3 and P11.4: a message shares no memory with the packet, with the Joiner, with a clone of it or with
// another message.
func TestMessageMemory(t *testing.T) {
	for _, middles := range []int{0, 1, 2, 3, 4, 5, 6, 7, 12, 40} {
		j := parts.NewJoiner(greatest)
		var copies []*parts.Joiner
		want := "abc"
		expectMore(t, j, pack(api.First, 3, 1, "abc"), 3)
		copies = append(copies, j.Clone())
		for i := range middles {
			expectMore(t, j, pack(api.Middle, 3, 2+i, "d"), 4+i)
			want += "d"
		}
		copies = append(copies, j.Clone(), j.Clone())
		p := pack(api.Last, 3, 2+middles, "ef")
		one, _, _ := j.Take(p)
		two, _, _ := copies[1].Take(p)
		if string(one) != want+"ef" || string(two) != want+"ef" || string(p.Data) != "ef" {
			t.Fatalf("the messages are %q and %q", one, two)
		}
		overwrite(one)
		if string(two) != want+"ef" || string(p.Data) != "ef" {
			t.Fatal("a change of a message changed another one or the packet")
		}
		expectMessage(t, copies[2], p, want+"ef")
		expectMore(t, copies[0], pack(api.Middle, 3, 2, "xyz"), 6)

		// The next message, while the one before is changed.
		expectMore(t, j, pack(api.First, 3, 1, "ab"), 2)
		overwrite(one)
		expectMore(t, j, pack(api.Middle, 3, 2, "cd"), 4)
		overwrite(one)
		one = append(one[:1], "zzzz"...)
		three, _, _ := j.Take(pack(api.Last, 3, 3, "ef"))
		overwrite(one)
		if string(three) != "abcdef" || string(two) != want+"ef" {
			t.Fatalf("the messages are %q and %q", three, two)
		}
	}
	p := pack(api.Whole, 3, 1, "abc")
	j := parts.NewJoiner(9)
	one, _, _ := j.Take(p)
	two, _, _ := j.Take(p)
	overwrite(one)
	if string(two) != "abc" || string(p.Data) != "abc" {
		t.Fatal("a change of a message changed another one or the packet")
	}
	overwrite(p.Data)
	if string(two) != "abc" {
		t.Fatal("a change of the packet changed a message")
	}
}

// shelf is a Joiner that keeps the packets of the message in progress as they are.
type shelf struct {
	most  int
	taken []api.Packet
}

func (s *shelf) contents() []byte {
	var b []byte
	for _, p := range s.taken {
		b = append(b, p.Data...)
	}
	return b
}

func (s *shelf) clone() *shelf { return &shelf{s.most, append([]api.Packet(nil), s.taken...)} }

// fits reports whether p follows the packets that were taken, of which there must be one.
func (s *shelf) fits(p api.Packet) bool {
	return len(s.taken) > 0 && p.Apid == s.taken[0].Apid && p.Count == (s.taken[0].Count+len(s.taken))%16384
}

// take is P11.3.
func (s *shelf) take(p api.Packet) ([]byte, bool, api.Errno) {
	if p.Apid < 0 || p.Apid > 2046 || p.Flags < 0 || p.Flags > 3 || p.Count < 0 || p.Count > 16383 || len(p.Data) == 0 {
		return nil, false, api.ErrArg
	}
	if p.Flags == 1 || p.Flags == 3 {
		s.taken = nil
	} else if !s.fits(p) {
		s.taken = nil
		return nil, false, api.ErrForm
	}
	s.taken = append(s.taken, clone(p))
	message := s.contents()
	if len(message) > s.most {
		s.taken = nil
		return nil, false, api.ErrLong
	}
	if p.Flags == 0 || p.Flags == 1 {
		return nil, false, api.OK
	}
	s.taken = nil
	return message, true, api.OK
}

// somePacket returns a packet that follows no rule but often fits to what s has.
func somePacket(next func() uint64, s *shelf) api.Packet {
	p := pack(int(next()%4), int(next()%3), int(next()%16384), string(someBytes(next, 1+int(next()%6))))
	p.Command, p.Secondary = next()%2 == 0, next()%2 == 0
	if next()%4 == 0 {
		p.Count = []int{0, 1, 16382, 16383}[next()%4]
	}
	if len(s.taken) > 0 && next()%8 != 0 {
		last := s.taken[len(s.taken)-1]
		p.Apid, p.Count = last.Apid, (last.Count+1)%16384
		if next()%2 == 0 {
			p.Flags = api.Middle
		}
	}
	edges := []int{least, -1, 4, 2046, 2047, 16383, 16384, greatest}
	switch next() % 60 {
	case 0:
		p.Apid = edges[next()%8]
	case 1:
		p.Flags = edges[next()%8]
	case 2:
		p.Count = edges[next()%8]
	case 3:
		p.Data = nil
	case 4:
		p.Count++
	case 5:
		p.Apid++
	case 6:
		p.Data = counting(int(next() % 40))
	}
	return p
}

// expectSame takes a packet with a Joiner and with its model.
func expectSame(t *testing.T, j *parts.Joiner, s *shelf, p api.Packet) api.Errno {
	t.Helper()
	want, ok, err := s.take(p)
	expectTake(t, j, p, want, ok, err, len(s.contents()))
	return err
}

// P11.2 to P11.4: packets chosen without a rule are answered as the chapter says, and clones go ways of their own.
func TestAnyPackets(t *testing.T) {
	next := pseudo()
	counts := map[api.Errno]int{}
	for range 1500 {
		most := int(next()%40) - 2
		j, s := parts.NewJoiner(most), &shelf{most: max(most, 0)}
		for range int(next() % 100) {
			counts[expectSame(t, j, s, somePacket(next, s))]++
			if next()%20 > 0 {
				continue
			}
			o, r := j.Clone(), s.clone()
			for range int(next() % 20) {
				expectSame(t, o, r, somePacket(next, r))
			}
			expectPending(t, j, len(s.contents()))
			// Either of the two goes on.
			if next()%2 == 0 {
				j, s = o, r
			}
		}
	}
	for _, err := range []api.Errno{api.OK, api.ErrArg, api.ErrForm, api.ErrLong} {
		if counts[err] < 2000 {
			t.Fatalf("the answer %d is too rare: %v", err, counts)
		}
	}
}

// P11.1, P11.5: messages chosen without a rule, of which some packets are missing, are answered as the chapter says.
func TestAnyMessages(t *testing.T) {
	next := pseudo()
	j, s := parts.NewJoiner(300), &shelf{most: 300}
	complete := 0
	for range 4000 {
		p := api.Packet{Command: next()%2 == 0, Secondary: next()%2 == 0, Apid: int(next() % 2047), Count: int(next() % 16384)}
		p.Flags, p.Data = int(next()%9)-3, someBytes(next, int(next()%3))
		data, most := someBytes(next, 1+int(next()%320)), 1+int(next()%80)
		if next()%5 == 0 {
			p.Count = 16383 - int(next()%5)
		}
		expectSplit(t, p, data, most)
		packets := split(t, p, data, most)
		missing := int(next() % uint64(2*len(packets)))
		for i, q := range packets {
			if i == missing {
				continue
			}
			if i == len(packets)-1 && missing > i && len(data) <= 300 {
				complete++
				expectMessage(t, j, q, string(data))
				s.taken = nil
				continue
			}
			expectSame(t, j, s, q)
		}
	}
	if complete < 1000 || complete > 3000 {
		t.Fatalf("%d of 4000 messages are complete", complete)
	}
}

// P11.1: arguments chosen without a rule are answered as the chapter says.
func TestAnyArguments(t *testing.T) {
	next := pseudo()
	counts := map[bool]int{}
	pick := func(all int, edges ...int) int {
		if next()%3 == 0 {
			return edges[next()%uint64(len(edges))]
		}
		return int(next() % uint64(all))
	}
	for range 20000 {
		p := api.Packet{Command: next()%2 == 0, Secondary: next()%2 == 0, Apid: pick(2047, 0, 2046, 2046, 2046, 2047, -1, greatest)}
		p.Flags, p.Count = pick(4, -1, 4, least, greatest), pick(16384, 0, 16383, 16383, 16383, 16384, -1, least)
		most, data := pick(60, 0, 1, 2, 4089, 4090, 4091, -1), someBytes(next, pick(200, 0, 1, 2, 3))
		ok := divisible(p, data, most)
		counts[ok]++
		if ok {
			expectSplit(t, p, data, most)
		} else {
			expectRefused(t, p, data, most)
		}
	}
	if counts[true] < 3000 || counts[false] < 3000 {
		t.Fatalf("the arguments are too much alike: %v", counts)
	}
}

// P11.3: the answers depend on nothing but the calls on the Joiner.
func TestSameCalls(t *testing.T) {
	run := func() string {
		next := pseudo()
		j, s := parts.NewJoiner(30), &shelf{most: 30}
		var seen bytes.Buffer
		for range 1000 {
			p := somePacket(next, s)
			s.take(p)
			message, ok, err := j.Take(p)
			fmt.Fprintln(&seen, message, ok, err, j.Pending())
		}
		return seen.String()
	}
	if run() != run() {
		t.Fatal("the same calls have different results")
	}
}

// P11.2: the Joiners of two calls of NewJoiner have nothing to do with each other.
func TestTwoJoiners(t *testing.T) {
	one, two := begun(t, 9), begun(t, 20)
	expectMore(t, one, pack(api.Middle, 10, 52, "xy"), 6)
	expectMessage(t, two, pack(api.Last, 10, 52, "1234567890"), "abcd1234567890")
	expectMessage(t, one, pack(api.Last, 10, 53, "z"), "abcdxyz")
	expectLost(t, one, pack(api.Whole, 10, 53, "1234567890"), api.ErrLong)
}
