package files_test

import (
	"bytes"
	"fmt"
	"math"
	"slices"
	"strings"
	"testing"

	"spacecraft/api"
	"spacecraft/files"
)

const (
	least    = math.MinInt
	greatest = math.MaxInt
	// mostFiles, mostRoom and longest are the limits of the chapter.
	mostFiles = 256
	mostRoom  = 2147483648
	longest   = 65536
	// permitted are the bytes from 21 to 7E (hexadecimal).
	permitted = "!\"#$%&'()*+,-./0123456789:;<=>?@ABCDEFGHIJKLMNOPQRSTUVWXYZ[\\]^_`abcdefghijklmnopqrstuvwxyz{|}~"
)

// wrongNames are strings that are no names.
func wrongNames() []string {
	return []string{"", " ", "a b", " a", "a ", "a\x7F", "\x00", "a\n", "\xFF", "\u00E9", "a\u00E9", "\u20AC", strings.Repeat("a", 65)}
}

// pseudo returns numbers below n that follow no simple rule but are the same in every run.
func pseudo(seed uint64) func(n int) int {
	x := seed*0x9E3779B97F4A7C15 + 1
	return func(n int) int {
		x ^= x << 13
		x ^= x >> 7
		x ^= x << 17
		return int(x>>20) % n
	}
}

// text returns n bytes that differ from seed to seed.
func text(n int, seed int) []byte {
	b := make([]byte, n)
	for i := range b {
		b[i] = byte(seed*31 + i*7 + i>>8)
	}
	return b
}

// file is a file of a model.
type file struct{ name, data string }

// model is a store that keeps to the chapter's words. Its files are in no particular order.
type model struct {
	most, room int
	list       []file
}

func newModel(most, room int) *model {
	return &model{most: max(0, min(most, mostFiles)), room: max(0, min(room, mostRoom))}
}

func (m *model) clone() *model { return &model{m.most, m.room, slices.Clone(m.list)} }

func isName(s string) bool {
	if len(s) == 0 || len(s) > 64 {
		return false
	}
	for _, b := range []byte(s) {
		if strings.IndexByte(permitted, b) < 0 {
			return false
		}
	}
	return true
}

// without returns the files but that of a name, and whether there was one.
func (m *model) without(name string) ([]file, bool) {
	var rest []file
	for _, f := range m.list {
		if f.name != name {
			rest = append(rest, f)
		}
	}
	return rest, len(rest) < len(m.list)
}

func (m *model) put(name string, data []byte) api.Errno {
	rest, found := m.without(name)
	sum := len(data)
	for _, f := range rest {
		sum += len(f.data)
	}
	switch {
	case !isName(name):
		return api.ErrArg
	case len(data) > longest:
		return api.ErrLong
	case !found && len(m.list) == m.most, sum > m.room:
		return api.ErrFull
	}
	m.list = append(rest, file{name, string(data)})
	return api.OK
}

func (m *model) get(name string) (string, api.Errno) {
	if !isName(name) {
		return "", api.ErrArg
	}
	for _, f := range m.list {
		if f.name == name {
			return f.data, api.OK
		}
	}
	return "", api.ErrNone
}

func (m *model) remove(name string) api.Errno {
	rest, found := m.without(name)
	switch {
	case !isName(name):
		return api.ErrArg
	case !found:
		return api.ErrNone
	}
	m.list = rest
	return api.OK
}

// before compares two strings byte by byte.
func before(a, b string) bool {
	for i := 0; i < len(a) && i < len(b); i++ {
		if a[i] != b[i] {
			return a[i] < b[i]
		}
	}
	return len(a) < len(b)
}

// names looks for the smallest name that is left, again and again.
func (m *model) names() []string {
	var sorted []string
	for range m.list {
		smallest := ""
		for _, f := range m.list {
			if !slices.Contains(sorted, f.name) && (smallest == "" || before(f.name, smallest)) {
				smallest = f.name
			}
		}
		sorted = append(sorted, smallest)
	}
	return sorted
}

func (m *model) free() int {
	free := m.room
	for _, f := range m.list {
		free -= len(f.data)
	}
	return free
}

// create returns a new store.
func create(t *testing.T, most, room int) *files.Store {
	t.Helper()
	s := files.New(most, room)
	if s == nil {
		t.Fatalf("New(%d, %d) is nil", most, room)
	}
	return s
}

// clone returns a copy of s.
func clone(t *testing.T, s *files.Store) *files.Store {
	t.Helper()
	c := s.Clone()
	if c == nil || c == s {
		t.Fatal("Clone() is nil or its own store")
	}
	return c
}

// short is how a name or contents appear in a message.
func short[T string | []byte](s T) string {
	if len(s) > 20 {
		return fmt.Sprintf("%q.. (%d bytes)", s[:20], len(s))
	}
	return fmt.Sprintf("%q", s)
}

func expectPut(t *testing.T, s *files.Store, name string, data []byte, want api.Errno) {
	t.Helper()
	if err := s.Put(name, data); err != want {
		t.Fatalf("Put(%s, %s) = %d, want %d", short(name), short(data), err, want)
	}
}

// fill stores files with the contents that text returns, which must be possible.
func fill(t *testing.T, s *files.Store, size int, names ...string) {
	t.Helper()
	for _, name := range names {
		expectPut(t, s, name, text(size, len(name)), api.OK)
	}
}

func expectGet(t *testing.T, s *files.Store, name string, want []byte) {
	t.Helper()
	if got, err := s.Get(name); !bytes.Equal(got, want) || err != api.OK {
		t.Fatalf("Get(%s) = %s, %d, want %s, 0", short(name), short(got), err, short(want))
	}
}

func expectGetError(t *testing.T, s *files.Store, name string, want api.Errno) {
	t.Helper()
	if got, err := s.Get(name); len(got) != 0 || err != want {
		t.Fatalf("Get(%s) = %s, %d, want nothing, %d", short(name), short(got), err, want)
	}
}

func expectDelete(t *testing.T, s *files.Store, name string, want api.Errno) {
	t.Helper()
	if err := s.Delete(name); err != want {
		t.Fatalf("Delete(%s) = %d, want %d", short(name), err, want)
	}
}

func expectNames(t *testing.T, s *files.Store, want ...string) {
	t.Helper()
	if got := s.Names(); !slices.Equal(got, want) {
		t.Fatalf("Names() = %q, want %q", got, want)
	}
}

func expectFree(t *testing.T, s *files.Store, want int) {
	t.Helper()
	if got := s.Free(); got != want {
		t.Fatalf("Free() = %d, want %d", got, want)
	}
}

// same checks that s contains what m does, and nothing else of some other names.
func same(t *testing.T, s *files.Store, m *model, others ...string) {
	t.Helper()
	expectNames(t, s, m.names()...)
	expectFree(t, s, m.free())
	for _, name := range append(m.names(), others...) {
		want, wantErr := m.get(name)
		if got, err := s.Get(name); string(got) != want || err != wantErr {
			t.Fatalf("Get(%s) = %s, %d, want %s, %d", short(name), short(got), err, short(want), wantErr)
		}
	}
}

// both makes the same call of a store and of its model.
func both(t *testing.T, s *files.Store, m *model, call step) {
	t.Helper()
	if call.remove {
		expectDelete(t, s, call.name, m.remove(call.name))
		return
	}
	expectPut(t, s, call.name, call.data, m.put(call.name, call.data))
}

// step is a call of Put, or of Delete.
type step struct {
	remove bool
	name   string
	data   []byte
}

// P26.1: a name has from 1 to 64 bytes.
func TestNameLengths(t *testing.T) {
	for _, filler := range []string{"a", "!", "~", "Z", "0"} {
		for _, n := range []int{1, 2, 32, 62, 63, 64} {
			if !files.Name(strings.Repeat(filler, n)) {
				t.Errorf("Name of %d times %s is false", n, filler)
			}
		}
		for _, n := range []int{0, 65, 66, 128, 255, 256, 257, 320, 65537, 1 << 20} {
			if files.Name(strings.Repeat(filler, n)) {
				t.Errorf("Name of %d times %s is true", n, filler)
			}
		}
	}
}

// P26.1: each byte of a name is from 21 to 7E (hexadecimal), wherever it stands.
func TestNameBytes(t *testing.T) {
	for b := range 256 {
		one := string([]byte{byte(b)})
		want := b >= 0x21 && b <= 0x7E
		for _, n := range []int{0, 1, 2, 7, 62, 63} {
			for at := range n + 1 {
				s := strings.Repeat("m", at) + one + strings.Repeat("m", n-at)
				if got := files.Name(s); got != want {
					t.Fatalf("Name of %d bytes with %X at %d = %t, want %t", n+1, b, at, got, want)
				}
			}
		}
		if files.Name(one + strings.Repeat("m", 64)) {
			t.Fatalf("Name of 65 bytes with %X is true", b)
		}
	}
}

// P26.1: names with bytes that are not permitted beside those that are, UTF-8 among them, and all permitted bytes.
func TestNameExamples(t *testing.T) {
	for _, s := range []string{permitted[:64], permitted[30:], "a", "telemetry.log", "A/b\\C", "..", "-", "\"'`", "!~"} {
		if !files.Name(s) {
			t.Errorf("Name(%q) is false", s)
		}
	}
	for _, s := range append(wrongNames(), permitted, permitted[:65], "\u2260", "na\u00EFve", "\U0001F680", "a\xC3", "\xA9a", "\tb", "a\x00b", "a\x00") {
		if files.Name(s) {
			t.Errorf("Name(%q) is true", s)
		}
	}
}

// P26.1: room is brought into its range, and Free returns it if the store is empty, whatever most is.
func TestRoom(t *testing.T) {
	rooms := map[int]int{
		least: 0, -mostRoom: 0, -1: 0, 0: 0, 1: 1, 10: 10, longest: longest,
		mostRoom - 1: mostRoom - 1, mostRoom: mostRoom, mostRoom + 1: mostRoom, 2 * mostRoom: mostRoom, greatest: mostRoom,
	}
	for room, want := range rooms {
		for _, most := range []int{least, -1, 0, 1, 2, 255, 256, 257, greatest} {
			s := create(t, most, room)
			expectFree(t, s, want)
			expectNames(t, s)
			expectFree(t, clone(t, s), want)
		}
	}
}

// numbered returns n names in ascending order.
func numbered(n int) []string {
	var names []string
	for i := range n {
		names = append(names, fmt.Sprintf("f%03d", i))
	}
	return names
}

// P26.1, P26.2, P26.4: most is brought into its range: so many files can be stored, and not one more.
func TestMost(t *testing.T) {
	mosts := map[int]int{
		least: 0, -257: 0, -256: 0, -1: 0, 0: 0, 1: 1, 2: 2, 3: 3, 255: 255, 256: 256, 257: 256, 512: 256, greatest: 256,
	}
	names := numbered(mostFiles + 1)
	for most, want := range mosts {
		for _, room := range []int{want, mostRoom} {
			s := clone(t, create(t, most, room))
			for i, name := range names[:want] {
				expectPut(t, s, name, text(1, i), api.OK)
			}
			expectPut(t, s, names[want], nil, api.ErrFull)
			expectNames(t, s, names[:want]...)
			expectFree(t, s, room-want)
			c := clone(t, s)
			expectPut(t, c, names[want], nil, api.ErrFull)
			if want == 0 {
				continue
			}
			expectDelete(t, c, names[0], api.OK)
			expectPut(t, c, names[want], nil, api.OK)
			expectPut(t, c, names[0], nil, api.ErrFull)
			expectNames(t, c, names[1:want+1]...)
		}
	}
}

// The chapter's example 1, to the end. P26.1, P26.2, P26.3.
func TestExample(t *testing.T) {
	s := create(t, 2, 10)
	expectPut(t, s, "a", text(6, 1), api.OK)
	expectFree(t, s, 4)
	expectPut(t, s, "b", text(5, 2), api.ErrFull)
	expectNames(t, s, "a")
	expectPut(t, s, "a", text(9, 3), api.OK)
	expectFree(t, s, 1)
	expectGet(t, s, "a", text(9, 3))
	expectPut(t, s, "b", text(1, 4), api.OK)
	expectPut(t, s, "c", nil, api.ErrFull)
	expectNames(t, s, "a", "b")
	expectFree(t, s, 0)
	expectDelete(t, s, "a", api.OK)
	expectFree(t, s, 9)
	expectGet(t, s, "b", text(1, 4))
	expectGetError(t, s, "a", api.ErrNone)
}

// P26.1, P26.2: a store of no files, and one of no bytes, into which only empty files fit.
func TestNoRoom(t *testing.T) {
	for _, room := range []int{0, 1, 100, mostRoom} {
		s := create(t, 0, room)
		for _, n := range []int{0, 1, 100, longest} {
			expectPut(t, s, "a", text(n, 1), api.ErrFull)
		}
		same(t, s, newModel(0, room), "a", "b", "")
	}
	s := create(t, 2, 0)
	expectPut(t, s, "a", text(1, 1), api.ErrFull)
	expectPut(t, s, "a", nil, api.OK)
	expectPut(t, s, "a", text(1, 1), api.ErrFull)
	expectGet(t, s, "a", nil)
	expectPut(t, s, "b", []byte{}, api.OK)
	expectPut(t, s, "c", nil, api.ErrFull)
	expectNames(t, s, "a", "b")
	expectFree(t, s, 0)
}

// P26.2: a file has at most 65536 bytes, and ErrLong comes before ErrFull.
func TestSizes(t *testing.T) {
	for _, n := range []int{0, 1, 2, 255, 256, 4096, longest - 1, longest} {
		s := create(t, 1, mostRoom)
		expectPut(t, s, "a", text(n, 1), api.OK)
		expectGet(t, s, "a", text(n, 1))
		expectFree(t, s, mostRoom-n)
	}
	for _, n := range []int{longest + 1, longest + 2, 2 * longest, 1 << 20} {
		for most := range 3 {
			for _, room := range []int{0, 1, longest, longest + 1, mostRoom} {
				s := create(t, most, room)
				expectPut(t, s, "a", text(n, 1), api.ErrLong)
				same(t, s, newModel(most, room), "a")
			}
		}
	}
}

// P26.1, P26.2, P26.3: a nil and an empty file are files.
func TestEmptyFiles(t *testing.T) {
	s := create(t, 2, 5)
	expectPut(t, s, "none", nil, api.OK)
	expectPut(t, s, "empty", []byte{}, api.OK)
	expectNames(t, s, "empty", "none")
	expectFree(t, s, 5)
	expectGet(t, s, "none", nil)
	expectGet(t, s, "empty", nil)
	expectPut(t, s, "third", nil, api.ErrFull)
	expectPut(t, s, "none", text(5, 1), api.OK)
	expectPut(t, s, "none", nil, api.OK)
	expectGet(t, s, "none", nil)
	expectFree(t, s, 5)
	expectDelete(t, s, "none", api.OK)
	expectGetError(t, s, "none", api.ErrNone)
	expectDelete(t, s, "none", api.ErrNone)
	expectDelete(t, s, "empty", api.OK)
	expectNames(t, s)
}

// P26.2: the bytes of all files together may fill the room, and not exceed it.
func TestFilling(t *testing.T) {
	for _, room := range []int{1, 2, 10, 1000, longest, longest + 1, 3 * longest} {
		for first := range min(room, 12) + 1 {
			s, m := create(t, 9, room), newModel(9, room)
			both(t, s, m, step{name: "first", data: text(first, 1)})
			rest := room - first
			for i := 0; rest > longest; i++ {
				both(t, s, m, step{name: fmt.Sprintf("filler%d", i), data: text(longest, i)})
				rest -= longest
			}
			if rest < longest {
				expectPut(t, s, "more", text(rest+1, 2), api.ErrFull)
			}
			same(t, s, m, "more")
			expectPut(t, clone(t, s), "more", text(rest, 2), api.OK)
			if rest == 0 {
				continue
			}
			both(t, s, m, step{name: "last", data: text(rest-1, 3)})
			expectFree(t, s, 1)
			expectPut(t, s, "more", text(2, 2), api.ErrFull)
			expectPut(t, s, "more", text(1, 2), api.OK)
			expectFree(t, s, 0)
			expectPut(t, s, "even more", text(1, 2), api.ErrArg)
			expectPut(t, s, "evenmore", text(1, 2), api.ErrFull)
			expectPut(t, s, "evenmore", nil, api.OK)
		}
	}
}

// P26.2: a file that is replaced counts neither as a file nor with its bytes, by whatever it is replaced.
func TestReplace(t *testing.T) {
	const room = 12
	for most := 2; most <= 4; most++ {
		for old := range room + 1 {
			for other := range room - old + 1 {
				for size := range room + 3 {
					s, m := create(t, most, room), newModel(most, room)
					both(t, s, m, step{name: "old", data: text(old, 1)})
					both(t, s, m, step{name: "other", data: text(other, 2)})
					want := api.OK
					if size > room-other {
						want = api.ErrFull
					}
					expectPut(t, s, "old", text(size, 3), want)
					m.put("old", text(size, 3))
					same(t, s, m)
					if want == api.OK {
						expectFree(t, s, room-other-size)
						expectGet(t, s, "old", text(size, 3))
					} else {
						expectFree(t, s, room-other-old)
						expectGet(t, s, "old", text(old, 1))
					}
					expectGet(t, s, "other", text(other, 2))
				}
			}
		}
	}
}

// P26.2: a file is replaced by an equally long one, also where there is room for nothing else.
func TestReplaceFull(t *testing.T) {
	names := numbered(mostFiles)
	s, m := create(t, mostFiles, mostFiles*3), newModel(mostFiles, mostFiles*3)
	for i, name := range names {
		both(t, s, m, step{name: name, data: text(3, i)})
	}
	expectFree(t, s, 0)
	for i, name := range names {
		expectPut(t, s, name, text(4, i), api.ErrFull)
		both(t, s, m, step{name: name, data: text(3, i+1)})
	}
	same(t, s, m)
	both(t, s, m, step{name: names[7], data: text(1, 7)})
	both(t, s, m, step{name: names[9], data: text(5, 9)})
	same(t, s, m)
	expectFree(t, s, 0)
	expectPut(t, s, "new", nil, api.ErrFull)
}

// P26.2, P26.3: the errors stand in the order of the chapter, and a call that returns one changes nothing.
func TestErrorOrder(t *testing.T) {
	for _, full := range []bool{false, true} {
		for _, name := range wrongNames() {
			s, m := create(t, 2, 10), newModel(2, 10)
			both(t, s, m, step{name: "a", data: text(4, 1)})
			if full {
				both(t, s, m, step{name: "b", data: text(6, 2)})
			}
			for _, n := range []int{0, 1, 6, 7, 11, longest, longest + 1} {
				expectPut(t, s, name, text(n, 3), api.ErrArg)
			}
			expectGetError(t, s, name, api.ErrArg)
			expectDelete(t, s, name, api.ErrArg)
			same(t, s, m, name)
		}
	}
	s, m := create(t, 2, 10), newModel(2, 10)
	both(t, s, m, step{name: "a", data: text(4, 1)})
	both(t, s, m, step{name: "b", data: text(6, 2)})
	for _, name := range []string{"a", "b", "c"} {
		expectPut(t, s, name, text(longest+1, 3), api.ErrLong)
		expectPut(t, s, name, text(longest, 3), api.ErrFull)
		expectPut(t, s, name, text(11, 3), api.ErrFull)
		same(t, s, m, "c")
	}
	expectPut(t, s, "c", nil, api.ErrFull)
	expectGetError(t, s, "c", api.ErrNone)
	expectDelete(t, s, "c", api.ErrNone)
	same(t, s, m, "c")
}

// P26.3, P26.5: files that are there, that are not, that were deleted, and that were stored anew.
func TestGetDelete(t *testing.T) {
	s := create(t, 3, 100)
	for range 2 {
		expectGetError(t, s, "a", api.ErrNone)
		expectDelete(t, s, "a", api.ErrNone)
	}
	expectPut(t, s, "a", []byte("first"), api.OK)
	expectPut(t, s, "b", []byte("other"), api.OK)
	for range 2 {
		expectGet(t, s, "a", []byte("first"))
		expectGet(t, s, "b", []byte("other"))
	}
	expectDelete(t, s, "a", api.OK)
	expectGetError(t, s, "a", api.ErrNone)
	expectDelete(t, s, "a", api.ErrNone)
	expectGet(t, s, "b", []byte("other"))
	expectNames(t, s, "b")
	expectFree(t, s, 95)
	expectPut(t, s, "a", []byte("anew"), api.OK)
	expectGet(t, s, "a", []byte("anew"))
	expectPut(t, s, "a", []byte("replaced"), api.OK)
	expectGet(t, s, "a", []byte("replaced"))
	expectGet(t, s, "b", []byte("other"))
	expectFree(t, s, 87)
	expectDelete(t, s, "b", api.OK)
	expectDelete(t, s, "a", api.OK)
	expectNames(t, s)
	expectFree(t, s, 100)
}

// alike are names that differ in little: in their length, in the last or the first byte, in the case of a letter.
func alike() []string {
	long := strings.Repeat("x", 62)
	return []string{
		"a", "A", "aa", "aA", "Aa", "AA", "aaa", "ab", "ba", "b", "a.", "a/", "./a", "a0", "a1", "0a", "!", "~", "a!", "a~", "!a", "~a",
		long, long + "x", long + "xx", long + "xy", long + "yx", long + "xX",
	}
}

// P26.3, P26.5: names that differ in little are names of different files, and calls that concern one concern no other.
func TestAlikeNames(t *testing.T) {
	for _, name := range alike() {
		s, m := create(t, 100, 1000), newModel(100, 1000)
		both(t, s, m, step{name: name, data: text(3, 1)})
		same(t, s, m, alike()...)
		for i, other := range alike() {
			if other != name {
				both(t, s, m, step{name: other, data: text(i, 2)})
			}
		}
		same(t, s, m)
		both(t, s, m, step{name: name, data: text(40, 3)})
		same(t, s, m)
		both(t, s, m, step{remove: true, name: name})
		same(t, s, m, name)
		for _, other := range alike() {
			both(t, s, m, step{remove: true, name: other})
		}
		same(t, s, m, alike()...)
		expectFree(t, s, 1000)
	}
}

// P26.1: the names are in ascending order, whatever the order in which the files were stored; written out.
func TestNamesOrder(t *testing.T) {
	sorted := []string{
		"!", "!a", "-", ".a", "/", "0", "00", "1", "10", "2", ":", "@", "A", "AB", "Aa", "B", "Z", "[", "_", "`", "a", "a!", "a-b", "a0",
		"aA", "aB", "aa", "ab", "abc", "b", "ba", "z", "zz", "{", "}", "~", "~~",
	}
	backwards := slices.Clone(sorted)
	slices.Reverse(backwards)
	orders := [][]string{sorted, backwards}
	next := pseudo(26)
	for range 20 {
		mixed := slices.Clone(sorted)
		for i := range mixed {
			j := i + next(len(mixed)-i)
			mixed[i], mixed[j] = mixed[j], mixed[i]
		}
		orders = append(orders, mixed)
	}
	for _, order := range orders {
		s := create(t, mostFiles, mostRoom)
		expectNames(t, s)
		for i, name := range order {
			fill(t, s, i, name)
			added := slices.Clone(order[:i+1])
			slices.SortFunc(added, func(a, b string) int { return slices.Index(sorted, a) - slices.Index(sorted, b) })
			expectNames(t, s, added...)
		}
		for i, name := range order {
			expectDelete(t, s, name, api.OK)
			left := slices.Clone(order[i+1:])
			slices.SortFunc(left, func(a, b string) int { return slices.Index(sorted, a) - slices.Index(sorted, b) })
			expectNames(t, s, left...)
		}
	}
}

// P26.1: the names of all bytes, each of them beside the name that it is the beginning of, in the order of the bytes.
func TestNamesOfEveryByte(t *testing.T) {
	s := create(t, mostFiles, 0)
	var want []string
	for b := 0x7E; b >= 0x21; b-- {
		fill(t, s, 0, string(rune(b))+"~", string(rune(b)))
		want = append(want, string(rune(b))+"~", string(rune(b)))
	}
	slices.Reverse(want)
	expectNames(t, s, want...)
	if len(want) != 188 || want[0] != "!" || want[1] != "!~" || want[187] != "~~" {
		t.Fatalf("%d names from %s to %s", len(want), want[0], want[len(want)-1])
	}
}

// P26.1, and the rule Determinism: Names and Free return the same however often they are called, also of a store that was
// filled in another order.
func TestSameResults(t *testing.T) {
	names := numbered(mostFiles)
	s, o := create(t, mostFiles, mostRoom), create(t, mostFiles, mostRoom)
	for i := range names {
		fill(t, s, i, names[i])
		fill(t, o, len(names)-1-i, names[len(names)-1-i])
	}
	for range 20 {
		expectNames(t, s, names...)
		expectNames(t, o, names...)
		expectFree(t, s, mostRoom-255*256/2)
		expectFree(t, o, mostRoom-255*256/2)
	}
}

// The rule Memory: Put neither modifies nor retains data, also where its array has more room.
func TestDataIsNotKept(t *testing.T) {
	for _, n := range []int{1, 2, 100, longest} {
		s := create(t, 1, mostRoom)
		array := text(n+8, 1)
		before := bytes.Clone(array)
		expectPut(t, s, "a", array[:n], api.OK)
		if !bytes.Equal(array, before) {
			t.Fatalf("Put of %d bytes changed them or what stands behind them", n)
		}
		for i := range array {
			array[i] ^= 0xFF
		}
		expectGet(t, s, "a", before[:n])
		c := clone(t, s)
		expectPut(t, s, "a", array[:n], api.OK)
		clear(array)
		expectGet(t, c, "a", before[:n])
	}
}

// The rule Memory: what Get returns shares no memory with the store, with another result, nor with a copy of the store.
func TestGetIsNew(t *testing.T) {
	s := create(t, 2, 100)
	data := text(10, 1)
	expectPut(t, s, "a", data, api.OK)
	expectPut(t, s, "b", text(5, 2), api.OK)
	c := clone(t, s)
	for _, x := range []*files.Store{s, c} {
		one, _ := x.Get("a")
		two, _ := x.Get("a")
		clear(one)
		_ = append(one, 1, 2, 3)
		if !bytes.Equal(two, text(10, 1)) {
			t.Fatal("two results of Get share memory")
		}
		clear(two[3:])
		full := append(two[:cap(two)], 9)
		clear(full)
		clear(two[:cap(two)])
		for _, y := range []*files.Store{s, c} {
			expectGet(t, y, "a", text(10, 1))
			expectGet(t, y, "b", text(5, 2))
		}
	}
	if !bytes.Equal(data, text(10, 1)) {
		t.Fatal("the argument of Put has changed")
	}
}

// The rule Memory: what Names returns shares no memory with the store nor with another result.
func TestNamesIsNew(t *testing.T) {
	s := create(t, 9, 100)
	fill(t, s, 1, "c", "a", "b")
	one, two := s.Names(), s.Names()
	clear(one)
	_ = append(one[:1], "z")
	if !slices.Equal(two, []string{"a", "b", "c"}) {
		t.Fatalf("two results of Names share memory: %q", two)
	}
	slices.Reverse(two)
	expectNames(t, s, "a", "b", "c")
	expectGet(t, s, "a", text(1, 1))
	expectGetError(t, s, "z", api.ErrNone)
}

// P26.4: a copy of an empty store, of a full one, and later calls on either.
func TestClone(t *testing.T) {
	s := create(t, 2, 10)
	empty := clone(t, s)
	fill(t, s, 4, "a")
	half := clone(t, s)
	fill(t, s, 6, "b")
	full := clone(t, s)
	again := clone(t, full)
	expectNames(t, empty)
	expectFree(t, empty, 10)
	expectNames(t, half, "a")
	expectFree(t, half, 6)
	for _, x := range []*files.Store{s, full, again} {
		expectNames(t, x, "a", "b")
		expectFree(t, x, 0)
		expectPut(t, x, "c", nil, api.ErrFull)
		expectPut(t, x, "a", text(5, 1), api.ErrFull)
	}
	expectPut(t, full, "a", text(4, 7), api.OK)
	expectGet(t, s, "a", text(4, 1))
	expectGet(t, again, "a", text(4, 1))
	expectDelete(t, s, "b", api.OK)
	expectGet(t, full, "b", text(6, 1))
	expectGet(t, again, "b", text(6, 1))
	expectPut(t, s, "c", text(6, 8), api.OK)
	expectGetError(t, full, "c", api.ErrNone)
	expectNames(t, full, "a", "b")
	expectPut(t, half, "b", text(7, 9), api.ErrFull)
	expectPut(t, half, "c", text(6, 9), api.OK)
	expectPut(t, half, "d", nil, api.ErrFull)
	expectPut(t, empty, "x", text(10, 1), api.OK)
	expectPut(t, empty, "y", nil, api.OK)
	expectPut(t, empty, "z", nil, api.ErrFull)
	expectNames(t, s, "a", "c")
	expectNames(t, half, "a", "c")
	expectGet(t, s, "c", text(6, 8))
	expectGet(t, half, "c", text(6, 9))
}

// calls are the calls from which sequences are made.
func calls() []step {
	list := []step{{remove: true, name: "a"}, {remove: true, name: "b"}, {remove: true, name: "A"}}
	for size := range 4 {
		list = append(list, step{name: "a", data: text(size, 1)}, step{name: "b", data: text(size, 2)})
	}
	return append(list, step{name: "A", data: text(1, 3)}, step{name: "a ", data: text(1, 4)})
}

// P26.1 to P26.3, P26.5: every sequence of at most four calls, from a new store on.
func TestEverySequence(t *testing.T) {
	list := calls()
	for _, size := range []struct{ most, room int }{{1, 2}, {2, 3}, {3, 9}} {
		var play func(steps []step)
		play = func(steps []step) {
			s, m := create(t, size.most, size.room), newModel(size.most, size.room)
			for _, call := range steps {
				both(t, s, m, call)
			}
			same(t, s, m, "a", "b", "A", "a ")
			if len(steps) == 4 {
				return
			}
			for _, call := range list {
				play(append(slices.Clone(steps), call))
			}
		}
		play(nil)
	}
}

// P26.4: every sequence of three calls, each one on a copy of the store before it, which does not change.
func TestEverySequenceOfCopies(t *testing.T) {
	list := calls()
	var play func(s *files.Store, m *model, left int)
	play = func(s *files.Store, m *model, left int) {
		if left == 0 {
			return
		}
		for _, call := range list {
			c, n := clone(t, s), m.clone()
			both(t, c, n, call)
			same(t, c, n, "a", "b", "A")
			play(c, n, left-1)
		}
		same(t, s, m, "a", "b", "A")
	}
	for most := range 4 {
		play(create(t, most, 3), newModel(most, 3), 3)
	}
}

// randomStep returns a call that follows no simple rule.
func randomStep(next func(int) int, names []string, size int) step {
	call := step{remove: next(5) == 0, name: names[next(len(names))]}
	if next(12) == 0 {
		wrong := wrongNames()
		call.name = wrong[next(len(wrong))]
	}
	if !call.remove {
		call.data = text(next(size), next(1000))
	}
	if !call.remove && next(40) == 0 {
		call.data = text(longest+next(3), next(1000))
	}
	return call
}

// P26.1 to P26.5: long plays chosen without a rule, on stores and their copies in turns.
func TestRandomPlays(t *testing.T) {
	for seed := range uint64(120) {
		next := pseudo(seed)
		most, room := next(9), next(200)
		if seed%10 == 0 {
			most, room = 20, 3*longest
		}
		stores, models := []*files.Store{create(t, most, room)}, []*model{newModel(most, room)}
		names := alike()[:1+next(len(alike()))]
		for range 150 {
			i := next(len(stores))
			if len(stores) < 4 && next(30) == 0 {
				stores, models = append(stores, clone(t, stores[i])), append(models, models[i].clone())
			}
			both(t, stores[i], models[i], randomStep(next, names, 1+room/2))
			same(t, stores[i], models[i])
		}
		for i := range stores {
			same(t, stores[i], models[i], append(wrongNames(), alike()...)...)
		}
	}
}

// The rule Determinism: the same calls have the same results.
func TestSameCalls(t *testing.T) {
	play := func() string {
		next := pseudo(7)
		s := create(t, 6, 60)
		var log strings.Builder
		for range 300 {
			call := randomStep(next, alike(), 30)
			err := api.OK
			if call.remove {
				err = s.Delete(call.name)
			} else {
				err = s.Put(call.name, call.data)
			}
			data, getErr := s.Get(call.name)
			fmt.Fprintln(&log, err, data, getErr, s.Names(), s.Free())
		}
		return log.String()
	}
	want := play()
	for range 10 {
		if play() != want {
			t.Fatal("the results of the same calls differ")
		}
	}
}

// The rule Nil objects.
func TestNilObjects(t *testing.T) {
	for _, s := range []*files.Store{nil, {}, new(files.Store)} {
		for range 2 {
			for _, name := range append(wrongNames(), "a") {
				expectPut(t, s, name, text(1, 1), api.ErrNil)
				expectPut(t, s, name, nil, api.ErrNil)
				expectPut(t, s, name, text(longest+1, 1), api.ErrNil)
				expectGetError(t, s, name, api.ErrNil)
				expectDelete(t, s, name, api.ErrNil)
			}
			expectNames(t, s)
			expectFree(t, s, 0)
			if s.Clone() != nil {
				t.Fatal("Clone() of a store that New did not return is not nil")
			}
		}
	}
}

// The rule Termination, and P26.1: great arguments.
func TestGreatArguments(t *testing.T) {
	s := create(t, greatest, greatest)
	m := newModel(greatest, greatest)
	names := numbered(mostFiles)
	for i, name := range names {
		both(t, s, m, step{name: name, data: text(longest, i)})
	}
	expectFree(t, s, mostRoom-mostFiles*longest)
	expectNames(t, s, names...)
	huge := strings.Repeat("a", 1<<24)
	expectPut(t, s, huge, make([]byte, 1<<24), api.ErrArg)
	expectPut(t, s, "f000", make([]byte, 1<<24), api.ErrLong)
	expectGetError(t, s, huge, api.ErrArg)
	expectDelete(t, s, huge, api.ErrArg)
	same(t, s, m)
}
