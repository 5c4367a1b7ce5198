package tags_test

import (
	"bytes"
	"crypto/hmac"
	"crypto/sha256"
	"encoding/binary"
	"math"
	"slices"
	"strings"
	"testing"

	"zugzwang/api"
	"zugzwang/digest"
	"zugzwang/mac"
	"zugzwang/tags"
)

// draws are numbers at the edges, and some between.
var draws = []int{0, 1, -1, 2, -2, 127, 128, 255, 256, 258, -128, -256, 65535, 65536, 1 << 31, 1<<32 - 1, 1 << 32, -1 << 32, 0x0102030405060708, math.MaxInt, math.MaxInt - 1, math.MinInt, math.MinInt + 1}

func table() *tags.Maker { return tags.New(false, []byte("seed")) }

func of(n uint64) api.Tag {
	var t api.Tag
	copy(t[:], "zugzwang")
	binary.BigEndian.PutUint64(t[8:], n)
	return t
}

func row(s string) []byte { return []byte(s) }

func tells(t *testing.T, what string, got api.Tag, n uint64) {
	t.Helper()
	if got != of(n) {
		t.Fatalf("%s = %x, want the tag of %d", what, got, n)
	}
}

func summed(b []byte) api.Tag { return sha256.Sum256(b) }

func underKey(key, b []byte) api.Tag {
	h := hmac.New(sha256.New, key)
	h.Write(b)
	return api.Tag(h.Sum(nil))
}

func drawn(seed []byte, k int) api.Tag {
	b := slices.Concat([]byte("draw"), seed)
	return sha256.Sum256(binary.BigEndian.AppendUint64(b, uint64(k)))
}

func TestExample(t *testing.T) { // P4.1
	m := tags.New(false, nil)
	tells(t, "the sum of a", m.Sum(row("a")), 0)
	tells(t, "the draw of 0", m.Draw(0), 1)
	tells(t, "the sum of a, again", m.Sum(row("a")), 0)
	want := api.Tag{'z', 'u', 'g', 'z', 'w', 'a', 'n', 'g', 0, 0, 0, 0, 0, 0, 0, 1}
	if got := m.Draw(0); got != want {
		t.Errorf("the draw of 0 = %x, want %x", got, want)
	}
}

func TestNew(t *testing.T) { // P4.1
	for _, real := range []bool{true, false} {
		for _, seed := range [][]byte{nil, {}, row("seed"), make([]byte, 100)} {
			m := tags.New(real, seed)
			if m == nil || m.Real() != real || m.Len() != 0 {
				t.Fatalf("New(%v, %x): %v %d", real, seed, m.Real(), m.Len())
			}
			if m.Told(of(0)) || m.Told(api.Tag{}) {
				t.Errorf("New(%v, %x) told a tag", real, seed)
			}
		}
	}
}

func TestTableTellsAgain(t *testing.T) { // P4.4
	m := table()
	ask := []func() api.Tag{
		func() api.Tag { return m.Sum() },
		func() api.Tag { return m.Sum(row("a")) },
		func() api.Tag { return m.Mac(nil) },
		func() api.Tag { return m.Mac(row("a")) },
		func() api.Tag { return m.Mac(nil, row("a")) },
		func() api.Tag { return m.Mac(row("a"), row("a")) },
		func() api.Tag { return m.Draw(0) },
		func() api.Tag { return m.Draw(-1) },
		func() api.Tag { return m.Sum(make([]byte, 1000)) },
		func() api.Tag { return m.Mac(make([]byte, 1000), make([]byte, 1000)) },
	}
	for n, first := range ask {
		tells(t, "asked for the first time", first(), uint64(n))
		tells(t, "asked at once again", first(), uint64(n))
		for i := range n {
			tells(t, "asked with other things between", ask[i](), uint64(i))
		}
		if m.Len() != n+1 {
			t.Fatalf("Len() = %d behind %d things", m.Len(), n+1)
		}
	}
	for n := range ask {
		i := len(ask) - 1 - n
		tells(t, "asked from behind", ask[i](), uint64(i))
	}
}

func TestTablePartedOtherwise(t *testing.T) { // P4.1
	m := table()
	all := row("the same bytes")
	m.Draw(1)
	tells(t, "Sum of one row", m.Sum(all), 1)
	tells(t, "Mac of one row", m.Mac(row("key"), all), 2)
	for i := range len(all) + 1 {
		for _, rows := range [][][]byte{{all[:i], all[i:]}, {nil, all[:i], {}, all[i:], nil}} {
			tells(t, "Sum of parted rows", m.Sum(rows...), 1)
			tells(t, "Mac of parted rows", m.Mac(row("key"), rows...), 2)
		}
	}
	ones := slices.Collect(slices.Chunk(all, 1))
	tells(t, "Sum of a row a byte", m.Sum(ones...), 1)
	tells(t, "Mac of a row a byte", m.Mac(row("key"), ones...), 2)
	if m.Len() != 3 {
		t.Errorf("Len() = %d, want 3", m.Len())
	}
}

func TestTableWithoutBytes(t *testing.T) { // P4.1
	m := table()
	for _, rows := range [][][]byte{nil, {}, {nil}, {{}}, {nil, {}, nil}} {
		tells(t, "Sum of no bytes", m.Sum(rows...), 0)
		tells(t, "Mac of no bytes under no key", m.Mac(nil, rows...), 1)
		tells(t, "Mac of no bytes under an empty key", m.Mac([]byte{}, rows...), 1)
	}
}

func TestTableLookAlikes(t *testing.T) { // P4.1
	m := table()
	tells(t, "a sum", m.Sum(row("ab")), 0)
	tells(t, "the same bytes under no key", m.Mac(nil, row("ab")), 1)
	tells(t, "the same bytes under an empty key", m.Mac([]byte{}, row("ab")), 1)
	tells(t, "the same bytes as a key", m.Mac(row("ab")), 2)
	tells(t, "a key and a row that are these together", m.Mac(row("a"), row("b")), 3)
	tells(t, "these, the other way round", m.Mac(row("b"), row("a")), 4)
	tells(t, "a key with a nought behind", m.Mac(row("a\x00"), row("b")), 5)
	tells(t, "a row with a nought ahead", m.Mac(row("a"), row("\x00b")), 6)
	tells(t, "a row with a nought behind", m.Mac(row("a"), row("b\x00")), 7)
	tells(t, "the sum of a", m.Sum(row("a")), 8)
	tells(t, "the sum of a nought", m.Sum([]byte{0}), 9)
	tells(t, "the sum of no bytes", m.Sum(), 10)
	tells(t, "no bytes under no key", m.Mac(nil), 11)
	tells(t, "the draw of 0", m.Draw(0), 12)
	tells(t, "the sum of a digit", m.Sum(row("0")), 13)
	tells(t, "the sum of what a real one's draw of 0 is of", m.Sum(row("drawseed"), make([]byte, 8)), 14)
	tells(t, "the sum of eight noughts", m.Sum(make([]byte, 8)), 15)
	tells(t, "eight noughts as a key", m.Mac(make([]byte, 8)), 16)
	tells(t, "eight noughts under no key", m.Mac(nil, make([]byte, 8)), 17)
	tells(t, "what is no text in UTF-8", m.Sum([]byte{0xff}), 18)
	tells(t, "what is another one", m.Sum([]byte{0xfe}), 19)
	tells(t, "the letter for both", m.Sum(row("\ufffd")), 20)
	if m.Len() != 21 {
		t.Errorf("Len() = %d, want 21", m.Len())
	}
}

func TestTableOneBitUnlike(t *testing.T) { // P4.1
	m := table()
	b := slices.Repeat(row("zugzwang"), 20)
	m.Sum(b)
	m.Mac(b, b)
	next := uint64(2)
	for i := range b {
		other := slices.Clone(b)
		other[i] ^= 1
		tells(t, "Sum of another byte", m.Sum(other), next)
		tells(t, "Mac under a key of another byte", m.Mac(other, b), next+1)
		tells(t, "Mac of another byte", m.Mac(b, other), next+2)
		next += 3
	}
}

func TestTableLongKeys(t *testing.T) { // P4.1
	// Under these keys a real one tells the same: a table has them apart.
	m, long := table(), make([]byte, 100)
	short := digest.Of(long)
	tells(t, "under a long key", m.Mac(long, row("b")), 0)
	tells(t, "under its tag", m.Mac(short[:], row("b")), 1)
	tells(t, "under its tag and noughts", m.Mac(append(short[:], 0), row("b")), 2)
}

func TestTableDraws(t *testing.T) { // P4.1
	m := table()
	for range 2 {
		for n, k := range draws {
			tells(t, "a draw", m.Draw(k), uint64(n))
		}
	}
	if m.Len() != len(draws) {
		t.Errorf("Len() = %d, want %d", m.Len(), len(draws))
	}
}

func TestTableManyThings(t *testing.T) { // P4.1, P4.4
	const things = 70000
	m := table()
	for n := range things {
		got := m.Draw(-n)
		if got != of(uint64(n)) || !m.Told(got) || m.Told(of(uint64(n+1))) {
			t.Fatalf("the thing %d has the tag %x, or it is not told, or the next one is", n, got)
		}
	}
	for _, n := range []int{0, 255, 256, 65535, 65536, things - 1} {
		tells(t, "an early one", m.Draw(-n), uint64(n))
	}
	if m.Len() != things {
		t.Errorf("Len() = %d, want %d", m.Len(), things)
	}
}

func TestSeedDoesNothingToATable(t *testing.T) { // P4.1, P4.4
	var all []*tags.Maker
	for _, seed := range [][]byte{nil, {}, row("seed"), row("draw"), make([]byte, 200)} {
		all = append(all, tags.New(false, seed))
	}
	for n, k := range draws {
		for _, m := range all {
			tells(t, "a draw", m.Draw(k), uint64(2*n))
			tells(t, "a sum", m.Sum(row("seed"), []byte{byte(n)}), uint64(2*n+1))
		}
	}
}

// known is a table that a test keeps as a plain row of things.
type known struct{ things []string }

func (k *known) number(thing string) uint64 {
	n := slices.Index(k.things, thing)
	if n < 0 {
		n = len(k.things)
		k.things = append(k.things, thing)
	}
	return uint64(n)
}

func TestTwoTablesAskedTheSame(t *testing.T) { // P4.4
	var k known
	a, b := tags.New(false, row("one")), tags.New(false, nil)
	x := uint32(1)
	next := func(n int) int {
		x = x*1664525 + 1013904223
		return int(x>>16) % n
	}
	for range 20000 {
		key := strings.Repeat("k", next(4))
		text := strings.Repeat("k", next(3)) + strings.Repeat("t", next(4))
		cut := next(len(text) + 1)
		rows := [][]byte{row(text[:cut]), row(text[cut:])}
		var got, other api.Tag
		var want uint64
		switch next(3) {
		case 0:
			got, other, want = a.Sum(rows...), b.Sum(row(text)), k.number("sum "+text)
		case 1:
			got, other, want = a.Mac(row(key), rows...), b.Mac(row(key), row(text)), k.number("mac "+key+" "+text)
		case 2:
			n := next(9) - 4
			got, other, want = a.Draw(n), b.Draw(n), k.number("draw "+string(rune('m'+n)))
		}
		tells(t, "a thing", got, want)
		if other != got || !tags.Mark(got[:]) {
			t.Fatalf("%x and %x, or without the mark", got, other)
		}
	}
	if a.Len() != len(k.things) || b.Len() != len(k.things) {
		t.Errorf("Len() = %d, %d, want %d", a.Len(), b.Len(), len(k.things))
	}
}

func TestTold(t *testing.T) { // P4.1
	m := table()
	for n := range uint64(300) {
		if m.Told(of(n)) {
			t.Fatalf("told the tag of %d ahead of being asked", n)
		}
		m.Sum(binary.BigEndian.AppendUint64(nil, n))
		if !m.Told(of(n)) || !m.Told(of(0)) || m.Told(of(n+1)) {
			t.Fatalf("behind %d things: what was told is not, or the next one is", n+1)
		}
	}
	if m.Len() != 300 {
		t.Fatalf("Told is an asking: Len() = %d", m.Len())
	}
	for _, n := range []uint64{300, 301, 1 << 16, 1 << 32, 1 << 56, 1 << 63, 1<<63 + 1, math.MaxUint64, math.MaxUint64 - 298} {
		if m.Told(of(n)) {
			t.Errorf("told the tag of %d", n)
		}
	}
	for _, tag := range []api.Tag{{}, summed(nil), digest.Of(row("a")), api.Tag(bytes.Repeat(row("zugzwang"), 4)), api.Tag(bytes.Repeat([]byte{255}, 32))} {
		if m.Told(tag) {
			t.Errorf("told %x", tag)
		}
	}
}

func TestToldOfLookAlikes(t *testing.T) { // P4.1
	m := table()
	m.Draw(0)
	for place := range 8 * len(api.Tag{}) {
		tag := of(0)
		tag[place/8] ^= 1 << (place % 8)
		if m.Told(tag) {
			t.Errorf("told a tag that is another one at the bit %d: %x", place, tag)
		}
	}
	if !m.Told(of(0)) {
		t.Error("did not tell the tag of 0")
	}
	moved := api.Tag{}
	copy(moved[16:], "zugzwang")
	if m.Told(moved) {
		t.Errorf("told %x", moved)
	}
}

func TestTablesStandAlone(t *testing.T) { // P4.1
	a, b := table(), table()
	a.Draw(0)
	if b.Told(of(0)) || b.Len() != 0 {
		t.Error("a table was asked by way of another one")
	}
}

func TestRealSums(t *testing.T) { // P4.1
	m := tags.New(true, row("seed"))
	b := bytes.Repeat(row("zug"), 50)
	for n := range len(b) + 1 {
		want := summed(b[:n])
		if got := m.Sum(b[:n]); got != want || got != digest.Of(b[:n]) {
			t.Fatalf("Sum of %d bytes = %x, want %x", n, got, want)
		}
		if got := m.Sum(b[:n/2], nil, b[n/2:n]); got != want {
			t.Fatalf("Sum of %d bytes in rows = %x, want %x", n, got, want)
		}
	}
	if got := m.Sum(); got != summed(nil) {
		t.Errorf("Sum() = %x", got)
	}
}

func TestRealMacs(t *testing.T) { // P4.1
	m := tags.New(true, row("seed"))
	b := bytes.Repeat(row("zug"), 50)
	for _, n := range []int{0, 1, 63, 64, 65, 100} {
		want := underKey(b[:n], b)
		if got := m.Mac(b[:n], b); got != want || got != mac.Of(b[:n], b) {
			t.Fatalf("Mac under a key of %d = %x, want %x", n, got, want)
		}
		if got := m.Mac(b[:n], b[:n], nil, b[n:]); got != want {
			t.Fatalf("Mac under a key of %d, of rows = %x, want %x", n, got, want)
		}
		if got := m.Mac(b[:n]); got != underKey(b[:n], nil) {
			t.Fatalf("Mac under a key of %d, of nothing = %x", n, got)
		}
	}
	if got := m.Mac(nil, b); got == m.Sum(b) {
		t.Errorf("under no key a real one tells the sum: %x", got)
	}
}

func TestRealDraws(t *testing.T) { // P4.1
	for _, seed := range [][]byte{nil, {}, row("seed"), {0}, make([]byte, 200)} {
		m := tags.New(true, seed)
		for _, k := range draws {
			if got, want := m.Draw(k), drawn(seed, k); got != want {
				t.Fatalf("Draw(%d) with the seed %x = %x, want %x", k, seed, got, want)
			}
		}
	}
	m := tags.New(true, row("seed"))
	if got := m.Draw(258); got != digest.Of(row("drawseed"), []byte{0, 0, 0, 0, 0, 0, 1, 2}) {
		t.Errorf("Draw(258) = %x", got)
	}
	if got := m.Draw(-1); got != digest.Of(row("drawseed\xff\xff\xff\xff\xff\xff\xff\xff")) {
		t.Errorf("Draw(-1) = %x", got)
	}
	if got := m.Draw(math.MinInt); got != digest.Of(row("drawseed\x80\x00\x00\x00\x00\x00\x00\x00")) {
		t.Errorf("Draw of the smallest int = %x", got)
	}
	if got := m.Draw(math.MaxInt); got != digest.Of(row("drawseed\x7f\xff\xff\xff\xff\xff\xff\xff")) {
		t.Errorf("Draw of the largest int = %x", got)
	}
}

func TestRealKeepsNothing(t *testing.T) { // P4.1
	m := tags.New(true, row("seed"))
	told := []api.Tag{m.Sum(row("a")), m.Mac(row("k"), row("a")), m.Draw(0), m.Draw(0), of(0), {}}
	if !m.Real() || m.Len() != 0 {
		t.Errorf("Real() = %v, Len() = %d", m.Real(), m.Len())
	}
	for _, tag := range told {
		if m.Told(tag) {
			t.Errorf("a real one told %x", tag)
		}
	}
}

func TestRealSumOfATablesTag(t *testing.T) { // P4.1
	m := tags.New(true, nil)
	first := of(0)
	if got := m.Sum(first[:]); got != summed(first[:]) || tags.Mark(got[:]) {
		t.Errorf("Sum of a table's tag = %x", got)
	}
}

func TestCopyOfATable(t *testing.T) { // P4.1
	m := table()
	m.Sum(row("a"))
	m.Draw(1)
	c := m.Copy()
	if c == nil || c == m || c.Real() || c.Len() != 2 || !c.Told(of(1)) || c.Told(of(2)) {
		t.Fatalf("a copy of a table: %v", c)
	}
	tells(t, "the copy, asked again", c.Draw(1), 1)
	tells(t, "the copy, asked more", c.Draw(2), 2)
	if m.Len() != 2 || m.Told(of(2)) {
		t.Fatalf("the first one was asked by way of the copy: %d", m.Len())
	}
	tells(t, "the first one, asked another thing", m.Mac(row("k")), 2)
	if c.Len() != 3 {
		t.Fatalf("the copy was asked by way of the first one: %d", c.Len())
	}
	tells(t, "the first one, asked what the copy was", m.Draw(2), 3)
	tells(t, "the copy, asked what the first one was", c.Mac(row("k")), 3)
	tells(t, "the copy, again", c.Draw(2), 2)
	d := c.Copy()
	tells(t, "the copy's copy", d.Sum(row("b")), 4)
	tells(t, "the copy's copy, again", d.Sum(row("a")), 0)
	if m.Len() != 4 || c.Len() != 4 || d.Len() != 5 {
		t.Errorf("Len() = %d, %d, %d", m.Len(), c.Len(), d.Len())
	}
}

func TestCopyOfANewTable(t *testing.T) { // P4.1
	m := table()
	c := m.Copy()
	tells(t, "the first one", m.Draw(0), 0)
	tells(t, "the copy", c.Draw(1), 0)
	tells(t, "the copy", c.Draw(0), 1)
	if m.Len() != 1 || c.Len() != 2 {
		t.Errorf("Len() = %d, %d", m.Len(), c.Len())
	}
}

func TestCopyOfARealOne(t *testing.T) { // P4.1
	m := tags.New(true, row("seed"))
	c := m.Copy().Copy()
	if c == nil || c == m || !c.Real() || c.Len() != 0 {
		t.Fatalf("a copy of a real one: %v", c)
	}
	for _, k := range draws {
		if got := c.Draw(k); got != drawn(row("seed"), k) || got != m.Draw(k) {
			t.Fatalf("Draw(%d) of a copy = %x", k, got)
		}
	}
	if c.Sum(row("a")) != summed(row("a")) || c.Mac(row("k"), row("a")) != underKey(row("k"), row("a")) {
		t.Error("a copy of a real one tells other tags")
	}
}

func TestMark(t *testing.T) { // P4.2
	for _, c := range []struct {
		b    string
		want bool
	}{
		{"", false},
		{"zugzwang", true},
		{"zugzwang at the beginning", true},
		{"at the end zugzwang", true},
		{"across zugzwang it", true},
		{"zugzugzwang", true},
		{"zugzwanzugzwang", true},
		{"zugzwangzugzwang", true},
		{"zzugzwangg", true},
		{"\x00zugzwang\x00", true},
		{"\xffzugzwang\xff", true},
		{"zugzwan", false},
		{"ugzwang", false},
		{"a zugzwan", false},
		{"ugzwang b", false},
		{"zugzwan g", false},
		{"zug\x00zwang", false},
		{"zuzgwang", false},
		{"zugzwanf", false},
		{"Zugzwang", false},
		{"ZUGZWANG", false},
		{"gnawzguz", false},
		{"zugzwanzugzwan", false},
		{"\x00", false},
	} {
		if got := tags.Mark([]byte(c.b)); got != c.want {
			t.Errorf("Mark(%q) = %v", c.b, got)
		}
	}
	if tags.Mark(nil) {
		t.Error("Mark(nil)")
	}
	letters := []byte("a zugzwang b")
	if tags.Mark(letters[:9]) || !tags.Mark(letters[:10]) || tags.Mark(letters[3:]) {
		t.Error("Mark looks behind or ahead of the bytes")
	}
}

func TestMarkAtEachPlace(t *testing.T) { // P4.2
	for n := range 100 {
		b := make([]byte, 100)
		copy(b[n:], "zugzwang")
		if got, want := tags.Mark(b), n <= 92; got != want {
			t.Errorf("Mark of the letters at %d of 100 = %v", n, got)
		}
	}
	for i := range len("zugzwang") {
		b := []byte("zugzwang")
		b[i]++
		if tags.Mark(b) {
			t.Errorf("Mark(%q)", b)
		}
	}
}

func TestTablesTagsHaveTheMark(t *testing.T) { // P4.4
	m := table()
	for n := range 300 {
		a, b, c := m.Sum([]byte{byte(n), byte(n >> 8)}), m.Mac([]byte{byte(n)}, []byte{byte(n >> 8)}), m.Draw(n)
		if !tags.Mark(a[:]) || !tags.Mark(b[:]) || !tags.Mark(c[:]) {
			t.Fatalf("without the mark: %x, %x, %x", a, b, c)
		}
	}
}

func isNone(t *testing.T, what string, m *tags.Maker) {
	t.Helper()
	for range 2 {
		if s, k, d := m.Sum(row("a")), m.Mac(row("k"), row("a")), m.Draw(3); s != (api.Tag{}) || k != (api.Tag{}) || d != (api.Tag{}) {
			t.Errorf("%s tells %x, %x, %x", what, s, k, d)
		}
		if m.Sum() != (api.Tag{}) || m.Mac(nil) != (api.Tag{}) || m.Draw(0) != (api.Tag{}) {
			t.Errorf("%s tells tags of nothing", what)
		}
		if m.Real() || m.Len() != 0 || m.Told(of(0)) || m.Told(api.Tag{}) || m.Copy() != nil {
			t.Errorf("%s: %v, %d, %v", what, m.Real(), m.Len(), m.Copy())
		}
	}
}

func TestNoMaker(t *testing.T) { // P4.3
	isNone(t, "a nil one", nil)
	isNone(t, "a zero one", &tags.Maker{})
	isNone(t, "a new zero one", new(tags.Maker))
}

func TestCopyByValueIsNoMaker(t *testing.T) { // P4.3, R5
	m := table()
	m.Draw(0)
	other := *m
	isNone(t, "a table's copy by value", &other)
	if m.Len() != 1 || m.Told(of(1)) {
		t.Errorf("asked by way of a copy by value: %d", m.Len())
	}
	tells(t, "the table itself", m.Draw(1), 1)
	real := *tags.New(true, row("seed"))
	isNone(t, "a real one's copy by value", &real)
}

func TestSeedsStay(t *testing.T) { // R3
	for _, real := range []bool{true, false} {
		whole := row("seed and room behind")
		m := tags.New(real, whole[:4])
		m.Draw(1)
		m.Copy().Draw(2)
		m.Sum(row("a"))
		if string(whole) != "seed and room behind" {
			t.Errorf("a seed was changed: %q", whole)
		}
	}
}

func TestSeedsAreNotKept(t *testing.T) { // R3
	seed := row("seed")
	m := tags.New(true, seed)
	c := m.Copy()
	clear(seed)
	for _, one := range []*tags.Maker{m, c, m.Copy()} {
		if got := one.Draw(5); got != drawn(row("seed"), 5) {
			t.Errorf("Draw(5) = %x behind a changed seed", got)
		}
	}
}

func TestKeysAndRowsStay(t *testing.T) { // R3
	for _, real := range []bool{true, false} {
		m := tags.New(real, nil)
		key, text := row("key and room"), row("one two and room")
		list := [][]byte{text[:3], nil, {}, text[4:7], {7}}
		m.Sum(list[:4]...)
		m.Mac(key[:3], list[:4]...)
		tags.Mark(text[:3])
		if string(key) != "key and room" || string(text) != "one two and room" {
			t.Errorf("%q, %q", key, text)
		}
		if string(list[0]) != "one" || list[1] != nil || list[2] == nil || string(list[3]) != "two" || string(list[4]) != "\x07" {
			t.Errorf("the rows were changed: %q", list)
		}
	}
}

func TestKeysAndRowsAreNotKept(t *testing.T) { // R3
	m := table()
	key, text := row("key"), row("text")
	rows := [][]byte{text}
	tells(t, "a sum", m.Sum(rows...), 0)
	tells(t, "a tag under a key", m.Mac(key, rows...), 1)
	clear(key)
	clear(text)
	tells(t, "the sum of other bytes in the same place", m.Sum(rows...), 2)
	tells(t, "other bytes under another key", m.Mac(key, rows...), 3)
	clear(rows)
	tells(t, "the sum of the first bytes", m.Sum(row("text")), 0)
	tells(t, "the first bytes under the first key", m.Mac(row("key"), row("text")), 1)
	tells(t, "the sum of noughts", m.Sum(make([]byte, 4)), 2)
	tells(t, "no bytes", m.Sum(rows...), 4)
}

func TestTagsAreNew(t *testing.T) { // R3
	m := table()
	got := m.Draw(0)
	clear(got[:])
	tells(t, "the draw, behind a changed answer", m.Draw(0), 0)
	if !m.Told(of(0)) || m.Told(got) {
		t.Error("a changed answer changes what was told")
	}
}
