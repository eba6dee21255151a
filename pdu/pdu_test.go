package pdu_test

import (
	"bytes"
	"encoding/hex"
	"fmt"
	"math"
	"slices"
	"strings"
	"testing"

	"spacecraft/api"
	"spacecraft/pdu"
)

const (
	least    = math.MinInt
	greatest = math.MaxInt
	// file is the greatest number of bytes of a file.
	file = 65536
)

// The kinds by the numbers of the chapter's table.
const (
	metadata = 1
	fileData = 2
	eof      = 3
	nak      = 4
	finished = 5
	ackEOF   = 6
	ackDone  = 7
)

// pseudo returns numbers that follow no simple rule but are the same in every run.
func pseudo(seed uint64) func(n int) int {
	x := seed*0x9E3779B97F4A7C15 + 1
	return func(n int) int {
		x ^= x << 13
		x ^= x >> 7
		x ^= x << 17
		return int(x>>20) % n
	}
}

// unhex returns the bytes that text lists in hexadecimal; spaces are for the eye.
func unhex(text string) []byte {
	b, err := hex.DecodeString(strings.ReplaceAll(text, " ", ""))
	if err != nil {
		panic(err)
	}
	return b
}

// clone returns p with slices of its own.
func clone(p api.Pdu) api.Pdu {
	p.Data = bytes.Clone(p.Data)
	p.Gaps = slices.Clone(p.Gaps)
	return p
}

func same(p, q api.Pdu) bool {
	return p.Kind == q.Kind && p.ID == q.ID && p.Class == q.Class && p.Name == q.Name && p.Size == q.Size &&
		p.Offset == q.Offset && bytes.Equal(p.Data, q.Data) && p.Sum == q.Sum && p.Code == q.Code && slices.Equal(p.Gaps, q.Gaps)
}

// counting returns size bytes none of which is equal to its neighbours.
func counting(size int) []byte {
	b := make([]byte, size)
	for i := range b {
		b[i] = byte(i*7 + i/256 + 1)
	}
	return b
}

// gapsOf returns the ranges whose ends are listed in pairs.
func gapsOf(ends ...int) []api.Range {
	var gaps []api.Range
	for i := 0; i < len(ends); i += 2 {
		gaps = append(gaps, api.Range{From: ends[i], To: ends[i+1]})
	}
	return gaps
}

// spaced returns n gaps, each of which begins one byte behind the one before it.
func spaced(n int) []api.Range {
	var gaps []api.Range
	for i := range n {
		gaps = append(gaps, api.Range{From: 3 * i, To: 3*i + 2})
	}
	return gaps
}

// ordinary returns a unit of each kind that is far from every edge.
func ordinary(kind int) api.Pdu {
	p := api.Pdu{Kind: kind, ID: api.FileID{Source: 9, Number: 0x1234}}
	switch kind {
	case metadata:
		p.Class, p.Size, p.Name = 2, 5000, "image.raw"
	case fileData:
		p.Offset, p.Data = 1000, []byte{0xAA, 0x00, 0xBB}
	case eof:
		p.Class, p.Size, p.Sum, p.Code = 1, 5000, 0xDEADBEEF, 7
	case nak:
		p.Gaps = gapsOf(0, 0, 100, 200, 300, 40000)
	case finished:
		p.Code = 9
	}
	return p
}

// kinds are the seven kinds.
func kinds() []int { return []int{metadata, fileData, eof, nak, finished, ackEOF, ackDone} }

// uses names, for each kind, the fields that the chapter's table lists.
func uses(kind int) (string, bool) {
	table := map[int]string{
		1: "Class Size Name",
		2: "Offset Data",
		3: "Class Size Sum Code",
		4: "Gaps",
		5: "Code",
		6: "",
		7: "",
	}
	fields, found := table[kind]
	return fields, found
}

// between reports whether n is from low to high.
func between(low, n, high int) bool { return low <= n && n <= high }

// inRange reports whether the field with that name is in the range that the chapter gives for it.
func inRange(p api.Pdu, field string) bool {
	switch field {
	case "Class":
		return p.Class == 1 || p.Class == 2
	case "Size":
		return between(0, p.Size, file)
	case "Name":
		return between(1, len(p.Name), 64) && !strings.ContainsFunc(p.Name, func(c rune) bool { return c < 0x21 || c > 0x7E })
	case "Offset":
		return p.Offset >= 0 && uint64(p.Offset)+uint64(len(p.Data)) <= file
	case "Data":
		return between(1, len(p.Data), 512)
	case "Sum":
		return true
	case "Code":
		return between(0, int(p.Code), 17)
	case "Gaps":
		return between(1, len(p.Gaps), 16) && gapsInRange(p.Gaps)
	}
	panic(field)
}

// gapsInRange asks of every gap what the chapter asks of it.
func gapsInRange(gaps []api.Range) bool {
	none := api.Range{From: 0, To: 0}
	for i, gap := range gaps {
		if i == 0 && gap == none {
			continue
		}
		if !(0 <= gap.From && gap.From < gap.To && gap.To <= file) {
			return false
		}
		if i > 0 && gaps[i-1] != none && !(gap.From > gaps[i-1].To) {
			return false
		}
	}
	return true
}

// isZero reports whether the field with that name is zero.
func isZero(p api.Pdu, field string) bool {
	switch field {
	case "Class":
		return p.Class == 0
	case "Size":
		return p.Size == 0
	case "Name":
		return p.Name == ""
	case "Offset":
		return p.Offset == 0
	case "Data":
		return len(p.Data) == 0
	case "Sum":
		return p.Sum == 0
	case "Code":
		return p.Code == 0
	case "Gaps":
		return len(p.Gaps) == 0
	}
	panic(field)
}

// fieldNames are the fields that not all kinds use.
func fieldNames() []string {
	return []string{"Class", "Size", "Name", "Offset", "Data", "Sum", "Code", "Gaps"}
}

// valid is the chapter's definition.
func valid(p api.Pdu) bool {
	used, found := uses(p.Kind)
	if !found || !between(0, p.ID.Source, 15) || !between(0, p.ID.Number, 65535) {
		return false
	}
	for _, field := range fieldNames() {
		if slices.Contains(strings.Fields(used), field) {
			if !inRange(p, field) {
				return false
			}
		} else if !isZero(p, field) {
			return false
		}
	}
	return true
}

// whole returns the size bytes of n, computed by divisions.
func whole(n, size int) []byte {
	b := make([]byte, size)
	for i := size - 1; i >= 0; i-- {
		b[i] = byte(n % 256)
		n /= 256
	}
	return b
}

// integer returns the encoding of n, which is not negative, as chapter 3 describes it.
func integer(n int) []byte {
	var b []byte
	z := 2 * n
	for z > 127 {
		b = append(b, byte(128+z%128))
		z /= 128
	}
	return append(b, byte(z))
}

// encoded lists the values of the chapter for a valid unit.
func encoded(p api.Pdu) []byte {
	b := slices.Concat(whole(p.Kind, 1), whole(p.ID.Source, 1), whole(p.ID.Number, 2))
	switch p.Kind {
	case metadata:
		return slices.Concat(b, whole(p.Class, 1), integer(p.Size), integer(len(p.Name)), []byte(p.Name))
	case fileData:
		return slices.Concat(b, integer(p.Offset), integer(len(p.Data)), p.Data)
	case eof:
		return slices.Concat(b, whole(p.Class, 1), integer(p.Size), whole(int(p.Sum), 4), whole(int(p.Code), 1))
	case nak:
		b = append(b, integer(len(p.Gaps))...)
		for _, gap := range p.Gaps {
			b = slices.Concat(b, integer(gap.From), integer(gap.To))
		}
	case finished:
		b = append(b, whole(int(p.Code), 1)...)
	}
	return b
}

// guess reads bytes without asking whether they are there or make sense: behind the end, it reads zeros.
type guess struct{ left []byte }

func (g *guess) take(size int) []byte {
	b := make([]byte, size)
	g.left = g.left[copy(b, g.left):]
	return b
}

func (g *guess) whole(size int) int {
	n := 0
	for _, x := range g.take(size) {
		n = 256*n + int(x)
	}
	return n
}

// integer reads at most four bytes, which is more than any integer of a valid unit has.
func (g *guess) integer() int {
	z, weight := 0, 1
	for range 4 {
		x := int(g.take(1)[0])
		z += x % 128 * weight
		weight *= 128
		if x < 128 {
			break
		}
	}
	return z / 2
}

// unit reads what would be a unit if b were an encoding.
func (g *guess) unit() api.Pdu {
	p := api.Pdu{Kind: g.whole(1), ID: api.FileID{Source: g.whole(1), Number: g.whole(2)}}
	switch p.Kind {
	case metadata:
		p.Class, p.Size, p.Name = g.whole(1), g.integer(), string(g.take(min(g.integer(), 65)))
	case fileData:
		p.Offset, p.Data = g.integer(), g.take(min(g.integer(), 513))
	case eof:
		p.Class, p.Size, p.Sum, p.Code = g.whole(1), g.integer(), uint32(g.whole(4)), api.Errno(g.whole(1))
	case nak:
		for range min(g.integer(), 17) {
			p.Gaps = append(p.Gaps, api.Range{From: g.integer(), To: g.integer()})
		}
	case finished:
		p.Code = api.Errno(g.whole(1))
	}
	return p
}

// decoded is the chapter's definition: the valid unit whose encoding is b, if there is one.
func decoded(b []byte) (api.Pdu, api.Errno) {
	g := &guess{left: b}
	p := g.unit()
	if valid(p) && bytes.Equal(encoded(p), b) {
		return p, api.OK
	}
	return api.Pdu{}, api.ErrForm
}

// expectValid checks all that is promised of a unit that is valid.
func expectValid(t *testing.T, p api.Pdu) {
	t.Helper()
	if !pdu.Valid(p) {
		t.Errorf("Valid(%+v) is false", p)
		return
	}
	b, e := pdu.Encode(p)
	if want := encoded(p); e != api.OK || !bytes.Equal(b, want) {
		t.Errorf("Encode(%+v): % X, %d, want % X", p, b, e, want)
		return
	}
	if q, e := pdu.Decode(b); e != api.OK || !same(p, q) {
		t.Errorf("Decode(% X): %+v, %d, want %+v", b, q, e, p)
	}
}

// expectInvalid checks all that is promised of a unit that is not valid.
func expectInvalid(t *testing.T, p api.Pdu) {
	t.Helper()
	if pdu.Valid(p) {
		t.Errorf("Valid(%+v) is true", p)
	}
	if b, e := pdu.Encode(p); e != api.ErrArg || len(b) != 0 {
		t.Errorf("Encode(%+v): % X, %d", p, b, e)
	}
}

// expect checks p, which is valid or not as ok states.
func expect(t *testing.T, p api.Pdu, ok bool) {
	t.Helper()
	if valid(p) != ok {
		t.Errorf("the model is wrong about %+v", p)
	}
	if ok {
		expectValid(t, p)
	} else {
		expectInvalid(t, p)
	}
}

// expectRefused checks that b is the encoding of no unit.
func expectRefused(t *testing.T, b []byte) {
	t.Helper()
	if p, e := pdu.Decode(b); e != api.ErrForm || !same(p, api.Pdu{}) {
		t.Errorf("Decode(% X): %+v, %d", b, p, e)
	}
}

// expectDecoded checks b against the model, and that what is accepted is the encoding of its result.
func expectDecoded(t *testing.T, b []byte) {
	t.Helper()
	p, e := pdu.Decode(b)
	if q, wanted := decoded(b); e != wanted || !same(p, q) {
		t.Errorf("Decode(% X): %+v, %d, want %+v, %d", b, p, e, q, wanted)
	}
	if e != api.OK {
		return
	}
	if c, e := pdu.Encode(p); e != api.OK || !bytes.Equal(b, c) || !pdu.Valid(p) {
		t.Errorf("Decode(% X) is %+v, of which the encoding is % X, %d", b, p, c, e)
	}
}

// someUnits returns valid units of all kinds, among them the ones at the edges.
func someUnits() []api.Pdu {
	var units []api.Pdu
	add := func(p api.Pdu, change func(p *api.Pdu)) {
		p = clone(p)
		change(&p)
		units = append(units, p)
	}
	for _, kind := range kinds() {
		p := ordinary(kind)
		add(p, func(p *api.Pdu) {})
		add(p, func(p *api.Pdu) { p.ID = api.FileID{} })
		add(p, func(p *api.Pdu) { p.ID = api.FileID{Source: 15, Number: 65535} })
		add(p, func(p *api.Pdu) { p.ID.Number = 255 })
		add(p, func(p *api.Pdu) { p.ID.Number = 256 })
	}
	for _, kind := range []int{metadata, eof} {
		for _, size := range []int{0, 1, 63, 64, 8191, 8192, file - 1, file} {
			add(ordinary(kind), func(p *api.Pdu) { p.Size = size })
		}
		add(ordinary(kind), func(p *api.Pdu) { p.Class = 3 - p.Class })
	}
	for _, kind := range []int{eof, finished} {
		for code := range 18 {
			add(ordinary(kind), func(p *api.Pdu) { p.Code = api.Errno(code) })
		}
	}
	for _, sum := range []uint32{0, 1, 0x80000000, math.MaxUint32} {
		add(ordinary(eof), func(p *api.Pdu) { p.Sum = sum })
	}
	for _, size := range []int{1, 2, 63, 64} {
		add(ordinary(metadata), func(p *api.Pdu) { p.Name = strings.Repeat("x", size) })
	}
	for _, size := range []int{1, 2, 63, 64, 511, 512} {
		for _, offset := range []int{0, 1, 63, 64, file - size - 1, file - size} {
			add(ordinary(fileData), func(p *api.Pdu) { p.Offset, p.Data = offset, counting(size) })
		}
	}
	for n := 1; n <= 16; n++ {
		add(ordinary(nak), func(p *api.Pdu) { p.Gaps = spaced(n) })
		add(ordinary(nak), func(p *api.Pdu) { p.Gaps = append(gapsOf(0, 0), spaced(n-1)...) })
	}
	return units
}

// P24.1, P24.2, P24.3: the chapter's examples.
func TestExamples(t *testing.T) {
	written := []struct {
		unit     api.Pdu
		encoding string
	}{
		{api.Pdu{Kind: api.Metadata, ID: api.FileID{Source: 1, Number: 300}, Class: 2, Size: 4, Name: "x"}, "01 01 01 2C 02 08 02 78"},
		{api.Pdu{Kind: api.Nak, ID: api.FileID{Source: 1, Number: 5}, Gaps: gapsOf(0, 0, 0, 2)}, "04 01 00 05 04 00 00 00 04"},
	}
	for _, x := range written {
		expectValid(t, x.unit)
		b, e := pdu.Encode(x.unit)
		if want := unhex(x.encoding); e != api.OK || !bytes.Equal(b, want) {
			t.Errorf("Encode(%+v): % X, %d, want % X", x.unit, b, e, want)
		}
		if p, e := pdu.Decode(unhex(x.encoding)); e != api.OK || !same(p, x.unit) {
			t.Errorf("Decode(%s): %+v, %d, want %+v", x.encoding, p, e, x.unit)
		}
	}
	expectInvalid(t, api.Pdu{Kind: api.Nak, ID: api.FileID{Source: 1, Number: 5}, Gaps: gapsOf(0, 2, 2, 4)})
}

// P24.1, P24.2, P24.3: a unit of every kind, written out by hand.
func TestEveryKind(t *testing.T) {
	id := api.FileID{Source: 15, Number: 0x0102}
	written := []struct {
		unit     api.Pdu
		encoding string
	}{
		// 5000 is 39 groups of 128 and 8; twice as much is 78 groups and 16.
		{api.Pdu{Kind: api.Metadata, ID: id, Class: 1, Size: 5000, Name: "a.b"}, "01 0F 01 02 01 90 4E 06 61 2E 62"},
		{api.Pdu{Kind: api.FileData, ID: id, Offset: 63, Data: []byte{0xFF, 0x00}}, "02 0F 01 02 7E 04 FF 00"},
		{api.Pdu{Kind: api.FileData, ID: id, Offset: 64, Data: []byte{0x01}}, "02 0F 01 02 80 01 02 01"},
		{api.Pdu{Kind: api.Eof, ID: id, Class: 2, Size: 65536, Sum: 0x12345678, Code: 17}, "03 0F 01 02 02 80 80 08 12 34 56 78 11"},
		{api.Pdu{Kind: api.Eof, ID: id, Class: 1}, "03 0F 01 02 01 00 00 00 00 00 00"},
		{api.Pdu{Kind: api.Nak, ID: id, Gaps: gapsOf(0, 65536)}, "04 0F 01 02 02 00 80 80 08"},
		{api.Pdu{Kind: api.Nak, ID: id, Gaps: gapsOf(0, 0)}, "04 0F 01 02 02 00 00"},
		{api.Pdu{Kind: api.Nak, ID: id, Gaps: gapsOf(1, 2, 3, 4)}, "04 0F 01 02 04 02 04 06 08"},
		{api.Pdu{Kind: api.Finished, ID: id, Code: 5}, "05 0F 01 02 05"},
		{api.Pdu{Kind: api.AckEof, ID: id}, "06 0F 01 02"},
		{api.Pdu{Kind: api.AckDone, ID: id}, "07 0F 01 02"},
	}
	for _, x := range written {
		expectValid(t, x.unit)
		b, e := pdu.Encode(x.unit)
		if want := unhex(x.encoding); e != api.OK || !bytes.Equal(b, want) {
			t.Errorf("Encode(%+v): % X, %d, want % X", x.unit, b, e, want)
		}
	}
	for _, kind := range kinds() {
		expectValid(t, ordinary(kind))
	}
}

// P24.1, P24.3: units of all kinds at the edges.
func TestSomeUnits(t *testing.T) {
	for _, p := range someUnits() {
		expect(t, p, true)
	}
}

// P24.1: Kind is one of the seven kinds, whatever the other fields are.
func TestKind(t *testing.T) {
	for _, kind := range []int{0, 8, -1, 9, 255, 256, 257, 263, 1 << 32, 1<<32 + 1, least, least + 6, greatest} {
		expect(t, api.Pdu{Kind: kind}, false)
		for _, other := range kinds() {
			p := ordinary(other)
			p.Kind = kind
			expect(t, p, false)
		}
	}
	expect(t, api.Pdu{Kind: ackEOF}, true)
	expect(t, api.Pdu{Kind: ackDone}, true)
	expect(t, api.Pdu{Kind: finished}, true)
	for _, kind := range []int{metadata, fileData, eof, nak} {
		expect(t, api.Pdu{Kind: kind}, false)
	}
}

// P24.1: the identifier has a source from 0 to 15 and a number from 0 to 65535, for every kind.
func TestID(t *testing.T) {
	for _, kind := range kinds() {
		p := ordinary(kind)
		for _, source := range []int{-1, 0, 1, 14, 15, 16, 255, 256, 1 << 32, least, greatest} {
			p.ID.Source = source
			expect(t, p, source >= 0 && source <= 15)
		}
		p = ordinary(kind)
		for _, number := range []int{-1, 0, 1, 255, 256, 65534, 65535, 65536, 65537, 1 << 32, least, greatest} {
			p.ID.Number = number
			expect(t, p, number >= 0 && number <= 65535)
		}
	}
}

// P24.1: fields that a kind does not use are zero; an empty slice counts as zero.
func TestUnusedFields(t *testing.T) {
	changes := map[string][]func(p *api.Pdu){
		"Class": {func(p *api.Pdu) { p.Class = 1 }, func(p *api.Pdu) { p.Class = 2 }, func(p *api.Pdu) { p.Class = -1 }},
		"Size": {func(p *api.Pdu) { p.Size = 1 }, func(p *api.Pdu) { p.Size = file }, func(p *api.Pdu) { p.Size = -1 },
			func(p *api.Pdu) { p.Size = 1 << 32 }},
		"Name":   {func(p *api.Pdu) { p.Name = "x" }, func(p *api.Pdu) { p.Name = "\x00" }},
		"Offset": {func(p *api.Pdu) { p.Offset = 1 }, func(p *api.Pdu) { p.Offset = -1 }, func(p *api.Pdu) { p.Offset = least }},
		"Data":   {func(p *api.Pdu) { p.Data = []byte{1} }, func(p *api.Pdu) { p.Data = []byte{0} }},
		"Sum":    {func(p *api.Pdu) { p.Sum = 1 }, func(p *api.Pdu) { p.Sum = math.MaxUint32 }},
		"Code":   {func(p *api.Pdu) { p.Code = 1 }, func(p *api.Pdu) { p.Code = -1 }, func(p *api.Pdu) { p.Code = 17 }},
		"Gaps":   {func(p *api.Pdu) { p.Gaps = gapsOf(0, 0) }, func(p *api.Pdu) { p.Gaps = gapsOf(5, 9) }},
	}
	for _, kind := range kinds() {
		used, _ := uses(kind)
		for field, list := range changes {
			if slices.Contains(strings.Fields(used), field) {
				continue
			}
			for _, change := range list {
				p := ordinary(kind)
				change(&p)
				expect(t, p, false)
			}
		}
		p := ordinary(kind)
		if kind != fileData {
			p.Data = []byte{}
		}
		if kind != nak {
			p.Gaps = []api.Range{}
		}
		expect(t, p, true)
	}
}

// P24.1: the fields that a kind uses do not make up for each other, and each of them alone can make a unit invalid.
func TestUsedFieldsOfZero(t *testing.T) {
	for _, kind := range []int{metadata, eof} {
		p := ordinary(kind)
		p.Class = 0
		expect(t, p, false)
		p = ordinary(kind)
		p.Size = 0
		expect(t, p, true)
	}
	p := ordinary(metadata)
	p.Name = ""
	expect(t, p, false)
	p = ordinary(fileData)
	p.Data = []byte{}
	expect(t, p, false)
	p.Data = nil
	expect(t, p, false)
	p = ordinary(nak)
	p.Gaps = []api.Range{}
	expect(t, p, false)
	p.Gaps = nil
	expect(t, p, false)
	p = ordinary(eof)
	p.Sum, p.Code = 0, 0
	expect(t, p, true)
}

// P24.1: the class is 1 or 2.
func TestClass(t *testing.T) {
	for _, kind := range []int{metadata, eof} {
		p := ordinary(kind)
		for _, class := range []int{-2, -1, 0, 1, 2, 3, 4, 257, 258, 1<<32 + 1, least, least + 1, greatest} {
			p.Class = class
			expect(t, p, class == 1 || class == 2)
		}
	}
}

// P24.1: the size is from 0 to 65536.
func TestSize(t *testing.T) {
	for _, kind := range []int{metadata, eof} {
		p := ordinary(kind)
		for _, size := range []int{-1, 0, 1, 63, 64, 65535, 65536, 65537, 131072, 1 << 32, 1<<62 + 5, least, least + 1, greatest} {
			p.Size = size
			expect(t, p, size >= 0 && size <= 65536)
		}
	}
}

// P24.1: a name has from 1 to 64 bytes.
func TestNameLength(t *testing.T) {
	p := ordinary(metadata)
	for _, size := range []int{0, 1, 2, 63, 64, 65, 128, 1000} {
		p.Name = strings.Repeat("~", size)
		expect(t, p, size >= 1 && size <= 64)
	}
	// The limit is one of bytes: these are 22 runes of 3 bytes.
	p.Name = strings.Repeat("\u20AC", 22)
	expect(t, p, false)
}

// P24.1: a name consists of bytes from 21 to 7E, wherever they stand.
func TestNameBytes(t *testing.T) {
	for x := range 256 {
		visible := x >= 0x21 && x <= 0x7E
		odd := string([]byte{byte(x)})
		for _, name := range []string{odd, odd + "bc", "a" + odd + "c", "ab" + odd, odd + odd,
			odd + strings.Repeat("z", 63), strings.Repeat("z", 63) + odd} {
			p := ordinary(metadata)
			p.Name = name
			expect(t, p, visible)
		}
	}
	for _, name := range []string{"\u00E9", "a\u20ACb", "a\x80\x80", "\xFF\xFE", "a b", "a\x00", "\x00"} {
		p := ordinary(metadata)
		p.Name = name
		expect(t, p, false)
	}
}

// P24.1: a piece of a file has from 1 to 512 bytes, at an offset that is not negative, and ends within the greatest file.
func TestPiece(t *testing.T) {
	for _, size := range []int{0, 1, 2, 255, 511, 512, 513, 514, 65536} {
		p := ordinary(fileData)
		p.Data = counting(size)
		last := file - size
		for _, offset := range []int{0, 1, last - 1, last, last + 1, file, file + 1, -1, -size, -size - 1, -512,
			least, least + size, greatest, greatest - size, greatest - size + 1, 1 << 32} {
			p.Offset = offset
			expect(t, p, size >= 1 && size <= 512 && offset >= 0 && offset <= last)
		}
	}
}

// P24.1: the code is from 0 to 17.
func TestCode(t *testing.T) {
	for _, kind := range []int{eof, finished} {
		p := ordinary(kind)
		for _, code := range []int{-1, 0, 1, 16, 17, 18, 19, 255, 256, 261, 1 << 32, least, least + 5, greatest} {
			p.Code = api.Errno(code)
			expect(t, p, code >= 0 && code <= 17)
		}
	}
}

// P24.1: the sum may be any number.
func TestSum(t *testing.T) {
	p := ordinary(eof)
	for _, sum := range []uint32{0, 1, 255, 256, 0x7FFFFFFF, 0x80000000, 0xFFFFFFFE, 0xFFFFFFFF} {
		p.Sum = sum
		expect(t, p, true)
	}
}

// expectGaps checks a unit with these gaps.
func expectGaps(t *testing.T, gaps []api.Range, ok bool) {
	t.Helper()
	p := ordinary(nak)
	p.Gaps = gaps
	expect(t, p, ok)
}

// P24.1: there are from 1 to 16 gaps.
func TestNumberOfGaps(t *testing.T) {
	for n := range 20 {
		expectGaps(t, spaced(n), n >= 1 && n <= 16)
		expectGaps(t, append(gapsOf(0, 0), spaced(n)...), n <= 15)
	}
	expectGaps(t, nil, false)
	expectGaps(t, []api.Range{}, false)
	expectGaps(t, spaced(300), false)
}

// P24.1: the gap that stands for the metadata is permitted as the first one only.
func TestGapOfMetadata(t *testing.T) {
	expectGaps(t, gapsOf(0, 0), true)
	expectGaps(t, gapsOf(0, 0, 0, 1), true)
	expectGaps(t, gapsOf(0, 0, 0, file), true)
	expectGaps(t, gapsOf(0, 0, 1, 2), true)
	expectGaps(t, gapsOf(0, 0, 0, 2, 3, 4), true)
	expectGaps(t, gapsOf(0, 0, 0, 2, 2, 4), false)
	expectGaps(t, gapsOf(0, 0, 0, 0), false)
	expectGaps(t, gapsOf(0, 0, 0, 0, 0, 1), false)
	expectGaps(t, gapsOf(0, 1, 0, 0), false)
	expectGaps(t, gapsOf(1, 2, 0, 0), false)
	expectGaps(t, gapsOf(0, 0, 1, 2, 0, 0), false)
	expectGaps(t, gapsOf(0, 0, 1, 2, 0, 0, 3, 4), false)
	expectGaps(t, gapsOf(0, 0, 0, 2, 0, 3), false)
}

// P24.1: each gap has a From that is not negative and less than its To, which is at most 65536.
func TestEndsOfGaps(t *testing.T) {
	edges := []int{least, least + 1, -file, -2, -1, 0, 1, 2, 3, file - 1, file, file + 1, 1 << 32, greatest}
	for _, from := range edges {
		for _, to := range edges {
			ok := from >= 0 && from < to && to <= file
			expectGaps(t, gapsOf(from, to), ok || from == 0 && to == 0)
			expectGaps(t, gapsOf(0, 0, from, to), ok)
			expectGaps(t, gapsOf(0, 1, from, to), ok && from > 1)
			expectGaps(t, gapsOf(0, 0, 0, 1, from, to), ok && from > 1)
			expectGaps(t, gapsOf(from, to, 7, 9), ok && to < 7 || from == 0 && to == 0)
			expectGaps(t, gapsOf(0, 0, from, to, 7, 9), ok && to < 7)
		}
	}
}

// P24.1: each gap begins behind the To of the gap before it, with at least one byte in between.
func TestOrderOfGaps(t *testing.T) {
	for before := 1; before < 50; before++ {
		for from := range 52 {
			expectGaps(t, gapsOf(before-1, before, from, 60), from > before)
			expectGaps(t, gapsOf(0, 0, before-1, before, from, 60), from > before)
		}
	}
	expectGaps(t, gapsOf(10, 20, 5, 7), false)
	expectGaps(t, gapsOf(10, 20, 10, 20), false)
	expectGaps(t, gapsOf(10, 20, 12, 14), false)
	expectGaps(t, gapsOf(10, 20, 30, 40, 20, 25), false)
	expectGaps(t, gapsOf(10, 20, 30, 40, 21, 25), false)
	expectGaps(t, gapsOf(10, 20, 21, 25, 26, 65536), true)
	expectGaps(t, gapsOf(10, 20, 21, 65536, 65537, 65538), false)
	last := spaced(16)
	last[15] = api.Range{From: 42, To: 50}
	expectGaps(t, last, false)
	last[15] = api.Range{From: 45, To: 45}
	expectGaps(t, last, false)
	last[15] = api.Range{From: 45, To: 46}
	expectGaps(t, last, true)
}

// P24.1: every list of up to three gaps within a small file.
func TestAllSmallGaps(t *testing.T) {
	var all []api.Range
	for from := -1; from <= 4; from++ {
		for to := -1; to <= 4; to++ {
			all = append(all, api.Range{From: from, To: to})
		}
	}
	for _, a := range all {
		p := ordinary(nak)
		p.Gaps = []api.Range{a}
		expect(t, p, valid(p))
		for _, b := range all {
			p.Gaps = []api.Range{a, b}
			expect(t, p, valid(p))
			for _, c := range all {
				p.Gaps = []api.Range{a, b, c}
				expect(t, p, valid(p))
			}
		}
	}
}

// P24.1: the units that go to the receiver of a file.
func TestForward(t *testing.T) {
	forward := []int{api.Metadata, api.FileData, api.Eof, api.AckDone}
	for kind := -300; kind <= 300; kind++ {
		if got, want := pdu.Forward(kind), slices.Contains(forward, kind); got != want {
			t.Errorf("Forward(%d) is %v", kind, got)
		}
	}
	for _, kind := range []int{least, least + 1, greatest, 1<<32 + 1, 1<<8 + 2, -1 << 32} {
		if pdu.Forward(kind) {
			t.Errorf("Forward(%d) is true", kind)
		}
	}
}

// P24.2, P24.4: no byte string of up to two bytes is an encoding, and none of three or four but those of AckEof and AckDone.
func TestShort(t *testing.T) {
	expectRefused(t, nil)
	expectRefused(t, []byte{})
	for x := range 256 {
		expectRefused(t, []byte{byte(x)})
		for y := range 256 {
			expectRefused(t, []byte{byte(x), byte(y)})
		}
		expectRefused(t, []byte{byte(x), 1, 0})
		b := []byte{byte(x), 1, 0, 5}
		if x != ackEOF && x != ackDone {
			expectRefused(t, b)
		} else if p, e := pdu.Decode(b); e != api.OK || !same(p, api.Pdu{Kind: x, ID: api.FileID{Source: 1, Number: 5}}) {
			t.Errorf("Decode(% X): %+v, %d", b, p, e)
		}
	}
}

// P24.2, P24.4: an encoding that is cut off, or that bytes follow, is none.
func TestCutOffAndFollowed(t *testing.T) {
	for _, p := range someUnits() {
		b, e := pdu.Encode(p)
		if e != api.OK {
			t.Fatalf("Encode(%+v): %d", p, e)
		}
		for size := range b {
			expectRefused(t, b[:size])
		}
		for _, more := range [][]byte{{0}, {1}, {2}, {0x7F}, {0x80}, {0xFF}, {0, 0}, {0x80, 0}, {0, 0, 0, 0, 0}, b, make([]byte, 600)} {
			expectRefused(t, slices.Concat(b, more))
			expectDecoded(t, slices.Concat(more, b))
		}
	}
}

// P24.2: a first byte that is no kind, whatever follows.
func TestDecodeKind(t *testing.T) {
	for _, kind := range kinds() {
		b := encoded(ordinary(kind))
		for x := range 256 {
			b[0] = byte(x)
			if x < 1 || x > 7 {
				expectRefused(t, b)
				expectRefused(t, b[:4])
			}
			expectDecoded(t, b)
		}
	}
}

// P24.2: source, class and code out of their ranges.
func TestDecodeBytesOutOfRange(t *testing.T) {
	for x := range 256 {
		for _, kind := range kinds() {
			b := encoded(ordinary(kind))
			b[1] = byte(x)
			expectDecoded(t, b)
			if x > 15 {
				expectRefused(t, b)
			}
		}
		for _, kind := range []int{metadata, eof} {
			b := encoded(ordinary(kind))
			b[4] = byte(x)
			expectDecoded(t, b)
			if x != 1 && x != 2 {
				expectRefused(t, b)
			}
		}
		for _, kind := range []int{eof, finished} {
			b := encoded(ordinary(kind))
			b[len(b)-1] = byte(x)
			expectDecoded(t, b)
			if x > 17 {
				expectRefused(t, b)
			}
		}
	}
}

// badIntegers are encodings that are not minimal, stand for no integer, or for one that is negative or greater than 65536.
func badIntegers() []string {
	return []string{
		// They are not minimal: the encodings 00, 02, 7E and 80 01 stand for the same.
		"80 00", "82 00", "FE 00", "80 81 00", "80 80 00", "80 80 88 00", "80 80 80 80 80 80 80 80 80 00",
		// Negative: -1, -2, -64, -65, -65536 and the least int.
		"01", "03", "7F", "81 01", "FF FF 07", "FF FF FF FF FF FF FF FF FF 01",
		// Too great: 65537, 65536 + 64, twice 65536, 2^31, 2^32, and the greatest int.
		"82 80 08", "80 81 08", "80 80 10", "80 80 80 80 10", "80 80 80 80 20", "FE FF FF FF FF FF FF FF FF 01",
		// Greater than 2^64 - 1.
		"80 80 80 80 80 80 80 80 80 02", "FF FF FF FF FF FF FF FF FF 02", "FE FF FF FF FF FF FF FF FF 7F",
		"80 80 80 80 80 80 80 80 80 80 01", "80 80 80 80 80 80 80 80 80 80 00",
		// They do not end within the bytes that follow.
		"80 80 80 80 80 80 80 80 80 80 80 80 80 80 80 80 80 80 80 80",
	}
}

// P24.2: integers of variable length that are not minimal, negative, or too great.
func TestDecodeIntegers(t *testing.T) {
	// The integer that is replaced stands at the %s, where 00 or 04 would be right.
	for _, form := range []string{
		"01 01 00 05 02 %s 02 78",
		"02 01 00 05 %s 02 78",
		"03 01 00 05 02 %s 00 00 00 00 00",
		"04 01 00 05 02 %s 08",
		"04 01 00 05 04 00 00 %s 08",
		"04 01 00 05 04 00 02 %s 08",
	} {
		expectDecoded(t, unhex(fmt.Sprintf(form, "04")))
		if _, e := pdu.Decode(unhex(fmt.Sprintf(form, "04"))); e != api.OK {
			t.Errorf(form+": %d", "04", e)
		}
		for _, bad := range badIntegers() {
			expectRefused(t, unhex(fmt.Sprintf(form, bad)))
		}
	}
	for _, form := range []string{"04 01 00 05 02 00 %s", "04 01 00 05 04 00 00 00 %s", "04 01 00 05 04 00 02 04 %s"} {
		expectDecoded(t, unhex(fmt.Sprintf(form, "08")))
		if _, e := pdu.Decode(unhex(fmt.Sprintf(form, "08"))); e != api.OK {
			t.Errorf(form+": %d", "08", e)
		}
		for _, bad := range badIntegers() {
			expectRefused(t, unhex(fmt.Sprintf(form, bad)))
		}
	}
}

// P24.2: the length of a byte string that is 0, too great, greater than what is left, or not minimal.
func TestDecodeBlobs(t *testing.T) {
	name, data := "01 01 00 05 02 08 %s", "02 01 00 05 08 %s"
	text := strings.Repeat(" 61", 600)
	first := func(size int) string { return text[:3*size] }
	for _, form := range []string{name, data} {
		for _, good := range []string{"02" + first(1), "7E" + first(63), "80 01" + first(64)} {
			b := unhex(fmt.Sprintf(form, good))
			if p, e := pdu.Decode(b); e != api.OK || p.Name+string(p.Data) != strings.Repeat("a", len(p.Name)+len(p.Data)) {
				t.Errorf("Decode(% X): %+v, %d", b, p, e)
			}
			expectDecoded(t, b)
		}
		for _, bad := range []string{
			// There is no byte, or no length.
			"00", "", "00" + first(1),
			// Fewer bytes than the length states, and more.
			"02", "04" + first(1), "7E" + first(62), "80 01" + first(63), "02" + first(2), "80 01" + first(65),
			// The lengths 513, 600 and 65 * 128 are too great, also for data.
			"82 08" + first(513), "B0 09" + first(600), "80 82 01" + first(600),
			// Not minimal: 1 byte, and 64 bytes.
			"82 00" + first(1), "82 80 00" + first(1), "80 81 00" + first(64),
			// Negative: -1, -2 and the least int.
			"01" + first(1), "03" + first(2), "FF FF FF FF FF FF FF FF FF 01" + first(600),
			// Much too great.
			"80 80 80 80 80 80 80 80 80 01" + first(600), "FE FF FF FF FF FF FF FF FF 01" + first(600),
			"80 80 80 80 80 80 80 80 80 02" + first(600),
		} {
			expectRefused(t, unhex(fmt.Sprintf(form, bad)))
		}
	}
	for _, bad := range []string{"82 01" + first(65), "80 08" + first(512)} {
		expectRefused(t, unhex(fmt.Sprintf(name, bad)))
	}
	for _, good := range []string{"82 01" + first(65), "80 08" + first(512)} {
		b := unhex(fmt.Sprintf(data, good))
		expectDecoded(t, b)
		if _, e := pdu.Decode(b); e != api.OK {
			t.Errorf("Decode(% X): %d", b, e)
		}
	}
}

// P24.2: names and pieces of files that Valid refuses.
func TestDecodeNamesAndPieces(t *testing.T) {
	for x := range 256 {
		for place := range 3 {
			b := unhex("01 01 00 05 02 08 06 61 62 63")
			b[7+place] = byte(x)
			expectDecoded(t, b)
			if x < 0x21 || x > 0x7E {
				expectRefused(t, b)
			}
		}
	}
	// The offsets 65535 and 65536 before one byte, 65534 and 65535 before two.
	expectDecoded(t, unhex("02 01 00 05 FE FF 07 02 AA"))
	expectRefused(t, unhex("02 01 00 05 80 80 08 02 AA"))
	expectDecoded(t, unhex("02 01 00 05 FC FF 07 04 AA BB"))
	expectRefused(t, unhex("02 01 00 05 FE FF 07 04 AA BB"))
	expectRefused(t, unhex("02 01 00 05 FE FF FF FF FF FF FF FF FF 01 04 AA BB"))
	for _, good := range []string{"02 01 00 05 FE FF 07 02 AA", "02 01 00 05 FC FF 07 04 AA BB"} {
		if _, e := pdu.Decode(unhex(good)); e != api.OK {
			t.Errorf("Decode(%s): %d", good, e)
		}
	}
}

// P24.2: counts of gaps that are 0, 17, negative, or greater than what is left.
func TestDecodeNumberOfGaps(t *testing.T) {
	list := func(count string, gaps []api.Range) []byte {
		b := unhex("04 01 00 05" + count)
		for _, gap := range gaps {
			b = slices.Concat(b, integer(gap.From), integer(gap.To))
		}
		return b
	}
	for n := range 20 {
		b := list(hex.EncodeToString(integer(n)), spaced(n))
		expectDecoded(t, b)
		if _, e := pdu.Decode(b); (e == api.OK) != (n >= 1 && n <= 16) {
			t.Errorf("%d gaps: %d", n, e)
		}
		// There is a gap less, or a gap more, than is stated; half a gap is missing.
		expectRefused(t, list(hex.EncodeToString(integer(n+1)), spaced(n)))
		expectRefused(t, list(hex.EncodeToString(integer(n)), spaced(n+1)))
		expectRefused(t, list(hex.EncodeToString(integer(n)), spaced(n))[:len(b)-1])
		for _, bad := range badIntegers() {
			expectRefused(t, list(bad, spaced(n)))
		}
		expectRefused(t, list(hex.EncodeToString(integer(n+128)), spaced(n)))
	}
	expectRefused(t, list("", nil))
	for _, count := range []string{"00", "22", "21", "20", "01", "03", "80 01", "80 80 08", "A2 00", "82 00"} {
		expectRefused(t, list(count, spaced(1)))
		expectRefused(t, list(count, spaced(17)))
		expectRefused(t, list(count, nil))
	}
}

// P24.2: gaps that Valid refuses, written out.
func TestDecodeGaps(t *testing.T) {
	for _, good := range []string{
		"04 01 00 05 02 00 00", "04 01 00 05 02 00 02", "04 01 00 05 02 02 04", "04 01 00 05 04 00 00 00 02",
		"04 01 00 05 04 00 02 04 06", "04 01 00 05 02 00 80 80 08", "04 01 00 05 02 FE FF 07 80 80 08",
	} {
		expectDecoded(t, unhex(good))
		if _, e := pdu.Decode(unhex(good)); e != api.OK {
			t.Errorf("Decode(%s): %d", good, e)
		}
	}
	for _, bad := range []string{
		// From equal to To, and greater.
		"04 01 00 05 02 02 02", "04 01 00 05 02 04 02", "04 01 00 05 02 02 00", "04 01 00 05 02 80 80 08 80 80 08",
		// Negative.
		"04 01 00 05 02 01 04", "04 01 00 05 02 01 00", "04 01 00 05 02 03 01", "04 01 00 05 02 00 01", "04 01 00 05 02 01 01",
		// Too great.
		"04 01 00 05 02 00 82 80 08", "04 01 00 05 02 80 80 08 82 80 08",
		// The metadata behind the first gap.
		"04 01 00 05 04 00 02 00 00", "04 01 00 05 04 00 00 00 00", "04 01 00 05 06 00 00 00 02 00 00",
		// A gap that begins where the one before it ends, one before that, and with it; gaps that do not ascend.
		"04 01 00 05 04 00 04 04 06", "04 01 00 05 04 00 04 02 06", "04 01 00 05 04 00 04 00 06", "04 01 00 05 04 00 04 00 04",
		"04 01 00 05 04 08 0A 02 04", "04 01 00 05 06 00 02 08 0A 04 06", "04 01 00 05 06 00 00 00 02 02 04",
		// Behind the second gap, a third one that is bad.
		"04 01 00 05 06 00 02 04 06 08 08", "04 01 00 05 06 00 02 04 06 0A 08", "04 01 00 05 06 00 02 04 06 08 82 80 08",
	} {
		expectRefused(t, unhex(bad))
		expectDecoded(t, unhex(bad))
	}
}

// P24.2, P24.3: of every changed byte, the result is an error or the unit whose encoding it is.
func TestEveryChangedByte(t *testing.T) {
	units := []api.Pdu{}
	for _, kind := range kinds() {
		units = append(units, ordinary(kind))
	}
	long := ordinary(nak)
	long.Gaps = append(gapsOf(0, 0), spaced(15)...)
	edge := ordinary(eof)
	edge.Size, edge.Sum = file, math.MaxUint32
	name := ordinary(metadata)
	name.Name, name.Size = strings.Repeat("n", 64), file
	piece := ordinary(fileData)
	piece.Offset, piece.Data = file-70, counting(70)
	for _, p := range append(units, long, edge, name, piece) {
		b := encoded(p)
		for i := range b {
			was := b[i]
			for x := range 256 {
				b[i] = byte(x)
				expectDecoded(t, b)
			}
			b[i] = was
		}
	}
}

// P24.2, P24.3: every byte string that continues a beginning of four bytes by a few bytes that are at edges.
func TestAllShortContinuations(t *testing.T) {
	edges := []byte{0x00, 0x01, 0x02, 0x04, 0x06, 0x11, 0x12, 0x20, 0x21, 0x7E, 0x7F, 0x80, 0xFF}
	for _, kind := range kinds() {
		most := 3
		if kind == metadata || kind == fileData || kind == nak {
			most = 4
		}
		var extend func(b []byte, left int)
		extend = func(b []byte, left int) {
			expectDecoded(t, b)
			if left == 0 {
				return
			}
			for _, x := range edges {
				extend(append(b, x), left-1)
			}
		}
		extend(append(make([]byte, 0, 16), byte(kind), 15, 0xFF, 0xFF), most)
	}
}

// P24.2, P24.3: every byte behind the beginning of a Finished unit, and every two bytes behind that of a FileData unit.
func TestAllContinuationsByTwoBytes(t *testing.T) {
	for x := range 256 {
		expectDecoded(t, []byte{5, 0, 0, 0, byte(x)})
		for y := range 256 {
			expectDecoded(t, []byte{2, 0, 0, 0, byte(x), 2, byte(y)})
			expectDecoded(t, []byte{4, 0, 0, 0, 2, byte(x), byte(y)})
			expectDecoded(t, []byte{2, 0, 0, 0, byte(x), byte(y), 2, 0xAA})
			expectDecoded(t, []byte{2, 0, 0, 0, 0xFE, byte(x), byte(y), 2, 0xAA})
		}
	}
}

// randomGaps returns from 1 to 16 gaps in order, at times behind the one that stands for the metadata.
func randomGaps(next func(n int) int) []api.Range {
	var gaps []api.Range
	if next(3) == 0 {
		gaps = gapsOf(0, 0)
	}
	reach := []int{3, 200, 8000}[next(3)]
	end := -1
	for n := 1 + next(15); len(gaps) < n; {
		from := end + 1 + next(reach)
		to := from + 1 + next(reach)
		if to > file {
			from, to = end+1, file
		}
		if from >= to {
			break
		}
		gaps, end = append(gaps, api.Range{From: from, To: to}), to
	}
	return gaps
}

// randomUnit returns a unit of any kind; most of them are valid.
func randomUnit(next func(n int) int) api.Pdu {
	p := api.Pdu{Kind: 1 + next(7), ID: api.FileID{Source: next(16), Number: next(65536)}}
	switch p.Kind {
	case metadata:
		name := make([]byte, 1+next(64))
		for i := range name {
			name[i] = byte(0x21 + next(0x5E))
		}
		p.Class, p.Size, p.Name = 1+next(2), next(file+1), string(name)
	case fileData:
		p.Data = counting(1 + next(512)*next(2))
		p.Offset = next(file - len(p.Data) + 1)
	case eof:
		p.Class, p.Size, p.Sum, p.Code = 1+next(2), next(file+1), uint32(next(1<<32)), api.Errno(next(18))
	case nak:
		p.Gaps = randomGaps(next)
	case finished:
		p.Code = api.Errno(next(18))
	}
	return p
}

// spoil sets one field of p to something at an edge.
func spoil(p *api.Pdu, next func(n int) int) {
	edges := []int{-1, 0, 1, 2, 3, 7, 8, 15, 16, 17, 18, 65535, 65536, 65537, least, greatest}
	x := edges[next(len(edges))]
	switch next(11) {
	case 0:
		p.Kind = x
	case 1:
		p.ID.Source = x
	case 2:
		p.ID.Number = x
	case 3:
		p.Class = x
	case 4:
		p.Size = x
	case 5:
		p.Name = string([]byte{'a', byte(next(256))})
	case 6:
		p.Offset = x
	case 7:
		p.Data = counting(next(600))
	case 8:
		p.Sum = uint32(x)
	case 9:
		p.Code = api.Errno(x)
	default:
		p.Gaps = append(slices.Clone(p.Gaps), api.Range{From: x, To: edges[next(len(edges))]})
	}
}

// P24.1, P24.3: units without a rule.
func TestRandomUnits(t *testing.T) {
	next := pseudo(24)
	count := map[bool]int{}
	for range 30000 {
		p := randomUnit(next)
		for range next(3) {
			spoil(&p, next)
		}
		ok := valid(p)
		count[ok]++
		expect(t, p, ok)
	}
	if count[true] < 5000 || count[false] < 5000 {
		t.Errorf("the units are too much alike: %v", count)
	}
}

// P24.2, P24.3: encodings with changes without a rule, and bytes without a rule.
func TestRandomBytes(t *testing.T) {
	next := pseudo(25)
	count := map[api.Errno]int{}
	for range 60000 {
		p := randomUnit(next)
		b := encoded(p)
		for range next(3) {
			i := next(min(len(b), 24))
			switch next(4) {
			case 0:
				b[i] = byte(next(256))
			case 1:
				b[i] ^= 1 << next(8)
			case 2:
				b = slices.Delete(b, i, i+1)
			default:
				b = slices.Insert(b, i, byte(next(256)))
			}
			if len(b) == 0 {
				break
			}
		}
		expectDecoded(t, b)
		_, e := pdu.Decode(b)
		count[e]++
	}
	if count[api.OK] < 10000 || count[api.ErrForm] < 10000 {
		t.Errorf("the byte strings are too much alike: %v", count)
	}
	for range 60000 {
		b := make([]byte, next(20))
		for i := range b {
			b[i] = byte(next(256))
		}
		if len(b) > 1 {
			b[0], b[1] = byte(next(9)), byte(next(17))
		}
		expectDecoded(t, b)
	}
}

// P24.4: no encoding begins with another one.
func TestNoBeginning(t *testing.T) {
	next := pseudo(26)
	units := someUnits()
	for range 2000 {
		units = append(units, randomUnit(next))
	}
	seen := map[string]api.Pdu{}
	var all []string
	for _, p := range units {
		b, e := pdu.Encode(p)
		if e != api.OK {
			t.Fatalf("Encode(%+v): %d", p, e)
		}
		if q, found := seen[string(b)]; found && !same(p, q) {
			t.Errorf("%+v and %+v have the same encoding % X", p, q, b)
		} else if !found {
			seen[string(b)] = p
			all = append(all, string(b))
		}
	}
	// In this order, what begins with a text follows it immediately.
	slices.Sort(all)
	for i := 1; i < len(all); i++ {
		if strings.HasPrefix(all[i], all[i-1]) {
			t.Errorf("% X is the beginning of % X", all[i-1], all[i])
		}
	}
}

// P24.4: units that differ in one field at the end of their encodings.
func TestNoBeginningAmongAlike(t *testing.T) {
	var units []api.Pdu
	for n := 1; n <= 64; n++ {
		p := ordinary(metadata)
		p.Name = strings.Repeat("x", n)
		units = append(units, p)
	}
	for n := 1; n <= 512; n++ {
		p := ordinary(fileData)
		p.Data = make([]byte, n)
		units = append(units, p)
	}
	for n := 1; n <= 16; n++ {
		p, q := ordinary(nak), ordinary(nak)
		p.Gaps = spaced(n)
		q.Gaps = append(gapsOf(0, 0), spaced(n-1)...)
		units = append(units, p, q)
	}
	for i, p := range units {
		b, _ := pdu.Encode(p)
		for j, q := range units {
			c, _ := pdu.Encode(q)
			if i != j && bytes.HasPrefix(c, b) {
				t.Errorf("the encoding of %+v begins with that of %+v", q, p)
			}
		}
	}
}

// The rule Memory: Encode neither changes nor retains its argument, and its results share no memory.
func TestEncodeMemory(t *testing.T) {
	for _, p := range someUnits() {
		before := clone(p)
		b, e := pdu.Encode(p)
		if e != api.OK {
			t.Fatalf("Encode(%+v): %d", p, e)
		}
		pdu.Valid(p)
		if !same(p, before) {
			t.Errorf("Encode changed %+v to %+v", before, p)
		}
		first := bytes.Clone(b)
		c, _ := pdu.Encode(p)
		for i := range c {
			c[i] ^= 0xFF
		}
		if !bytes.Equal(b, first) || !same(p, before) {
			t.Errorf("a result of Encode(%+v) shares memory", before)
		}
		clear(p.Data)
		clear(p.Gaps)
		if !bytes.Equal(b, first) {
			t.Errorf("Encode retains %+v", before)
		}
		for i := range b {
			b[i] = 0xEE
		}
		if d, e := pdu.Encode(before); e != api.OK || !bytes.Equal(d, first) {
			t.Errorf("Encode(%+v) depends on what the caller did before", before)
		}
	}
}

// The rule Memory: Decode neither changes nor retains its argument, and its results share no memory.
func TestDecodeMemory(t *testing.T) {
	for _, p := range someUnits() {
		b := encoded(p)
		before := bytes.Clone(b)
		q, e := pdu.Decode(b)
		if e != api.OK || !bytes.Equal(b, before) {
			t.Fatalf("Decode(% X): %d, and now there is % X", before, e, b)
		}
		r, _ := pdu.Decode(b)
		clear(r.Data)
		clear(r.Gaps)
		if !same(q, p) || !bytes.Equal(b, before) {
			t.Errorf("a result of Decode(% X) shares memory", before)
		}
		for i := range b {
			b[i] = 0xEE
		}
		if !same(q, p) {
			t.Errorf("Decode retains % X", before)
		}
		// What the caller does with the result is of no consequence for later calls, either.
		clear(q.Data)
		clear(q.Gaps)
		if s, e := pdu.Decode(before); e != api.OK || !same(s, p) {
			t.Errorf("Decode(% X): %+v, %d", before, s, e)
		}
	}
}

// The rules Memory and First error: an argument that is refused is not changed, either.
func TestRefusedMemory(t *testing.T) {
	p := ordinary(nak)
	p.Gaps = gapsOf(5, 6, 1, 2)
	before := clone(p)
	expectInvalid(t, p)
	if !same(p, before) {
		t.Errorf("Encode changed %+v to %+v", before, p)
	}
	for _, kind := range kinds() {
		b := append(encoded(ordinary(kind)), 0)
		c := bytes.Clone(b)
		expectRefused(t, b)
		if !bytes.Equal(b, c) {
			t.Errorf("Decode changed % X to % X", c, b)
		}
	}
}

// The rule Determinism: the same arguments have the same results, whatever was called before.
func TestSameCalls(t *testing.T) {
	units := someUnits()
	var encodings [][]byte
	for _, p := range units {
		b, _ := pdu.Encode(p)
		encodings = append(encodings, b)
	}
	for i := len(units) - 1; i >= 0; i-- {
		pdu.Decode(encodings[i][1:])
		b, e := pdu.Encode(units[i])
		if e != api.OK || !bytes.Equal(b, encodings[i]) {
			t.Errorf("Encode(%+v): % X, then % X, %d", units[i], encodings[i], b, e)
		}
		pdu.Encode(api.Pdu{Kind: i})
		if p, e := pdu.Decode(b); e != api.OK || !same(p, units[i]) {
			t.Errorf("Decode(% X): %+v, %d", b, p, e)
		}
	}
}

// The rule Termination: no argument makes a function panic; a great one is refused like any other.
func TestGreatArguments(t *testing.T) {
	zeros := make([]byte, 1<<20)
	expectRefused(t, zeros)
	for kind := range 9 {
		zeros[0] = byte(kind)
		expectRefused(t, zeros)
	}
	ones := bytes.Repeat([]byte{0xFF}, 1<<20)
	for kind := range 9 {
		ones[0], ones[1] = byte(kind), 3
		expectRefused(t, ones)
	}
	p := ordinary(fileData)
	p.Data = zeros
	expect(t, p, false)
	p.Offset = greatest
	expect(t, p, false)
	q := ordinary(metadata)
	q.Name = strings.Repeat("x", 1<<20)
	expect(t, q, false)
	expectGaps(t, spaced(1<<16), false)
	expectGaps(t, make([]api.Range, 1<<16), false)
}
