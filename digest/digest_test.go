package digest_test

import (
	"bytes"
	"crypto/sha256"
	"encoding/hex"
	"slices"
	"strings"
	"testing"

	"zugzwang/api"
	"zugzwang/digest"
)

// sample are n bytes that a short rule makes, no two blocks alike.
func sample(n int) []byte {
	b := make([]byte, n)
	x := uint32(2463534242)
	for i := range b {
		x = x*1664525 + 1013904223
		b[i] = byte(x >> 24)
	}
	return b
}

// lengths are all of the first blocks, and those about the edges of later ones.
func lengths() []int {
	var all []int
	for n := range 260 {
		all = append(all, n)
	}
	for _, blocks := range []int{5, 8, 15, 16, 17, 31, 100, 1000} {
		for _, edge := range []int{55, 56, 57, 63, 64, 65} {
			all = append(all, 64*(blocks-1)+edge)
		}
		for _, edge := range []int{55, 56, 63, 64, 65} {
			all = append(all, blocks*edge)
		}
	}
	return all
}

func asked(b []byte) api.Tag { return api.Tag(sha256.Sum256(b)) }

func written(t *testing.T, h *digest.Hasher, want api.Errno, rows ...[]byte) {
	t.Helper()
	if got := h.Write(rows...); got != want {
		t.Fatalf("Write of %d rows: %d, want %d", len(rows), got, want)
	}
}

func holds(t *testing.T, h *digest.Hasher, b []byte) {
	t.Helper()
	if h.Len() != len(b) {
		t.Fatalf("Len = %d, want %d", h.Len(), len(b))
	}
	if got, want := h.Tag(), asked(b); got != want {
		t.Fatalf("Tag of %d bytes = %x, want %x", len(b), got, want)
	}
}

func TestOfExamples(t *testing.T) { // P2.1
	for _, c := range []struct{ text, want string }{
		{"", "e3b0c44298fc1c149afbf4c8996fb92427ae41e4649b934ca495991b7852b855"},
		{"a", "ca978112ca1bbdcafac231b39a23dc4da786eff8147c4e72b9807785afee48bb"},
		{"abc", "ba7816bf8f01cfea414140de5dae2223b00361a396177a9cb410ff61f20015ad"},
		{"abcdbcdecdefdefgefghfghighijhijkijkljklmklmnlmnomnopnopq", "248d6a61d20638b8e5c026930c3e6039a33ce45964ff2167f6ecedd419db06c1"},
		{"abcdefghbcdefghicdefghijdefghijkefghijklfghijklmghijklmnhijklmnoijklmnopjklmnopqklmnopqrlmnopqrsmnopqrstnopqrstu", "cf5b16a778af8380036ce59e7b0492370b249b11e8f07a51afac45037afee9d1"},
		{strings.Repeat("\x00", 64), "f5a5fd42d16a20302798ef6ed309979b43003d2320d9f0e8ea9831a92759fb4b"},
	} {
		tag := digest.Of([]byte(c.text))
		if got := hex.EncodeToString(tag[:]); got != c.want {
			t.Errorf("Of(%q) = %s, want %s", c.text, got, c.want)
		}
	}
}

func TestOfEachLength(t *testing.T) { // P2.1
	for _, n := range lengths() {
		b := sample(n)
		if got, want := digest.Of(b), asked(b); got != want {
			t.Fatalf("Of %d bytes = %x, want %x", n, got, want)
		}
	}
}

func TestOfEachByte(t *testing.T) { // P2.1
	for x := range 256 {
		for _, n := range []int{1, 55, 64} {
			b := bytes.Repeat([]byte{byte(x)}, n)
			if got, want := digest.Of(b), asked(b); got != want {
				t.Fatalf("Of %d bytes %d = %x, want %x", n, x, got, want)
			}
		}
	}
}

func TestOfWithoutBytes(t *testing.T) { // P2.1
	want := asked(nil)
	for i, rows := range [][][]byte{nil, {}, {nil}, {{}}, {nil, {}, nil}, slices.Repeat([][]byte{{}}, 100)} {
		if got := digest.Of(rows...); got != want {
			t.Errorf("Of no bytes, case %d = %x, want %x", i, got, want)
		}
	}
}

func TestOfMoreThanAHasherTakes(t *testing.T) { // P2.1
	b := sample(api.MaxDigest + 1)
	want := asked(b)
	if got := digest.Of(b); got != want {
		t.Errorf("Of MaxDigest and 1 in one row = %x, want %x", got, want)
	}
	if got := digest.Of(b[:1], b[1:]); got != want {
		t.Errorf("Of MaxDigest and 1 in two rows = %x, want %x", got, want)
	}
}

func TestNewHasNoBytes(t *testing.T) { // P2.2
	h, other := digest.New(), digest.New()
	holds(t, h, nil)
	written(t, h, api.OK, []byte("abc"))
	holds(t, h, []byte("abc"))
	holds(t, other, nil)
	holds(t, digest.New(), nil)
}

func TestWriteEachLength(t *testing.T) { // P2.2
	for _, n := range lengths() {
		h := digest.New()
		written(t, h, api.OK, sample(n))
		holds(t, h, sample(n))
	}
}

func TestWriteBehindOthers(t *testing.T) { // P2.2
	h := digest.New()
	all := sample(4000)
	n := 0
	for _, more := range []int{0, 1, 54, 0, 1, 7, 1, 1, 55, 56, 57, 63, 64, 65, 128, 127, 129, 1000, 1, 0} {
		written(t, h, api.OK, all[n:n+more])
		n += more
		holds(t, h, all[:n])
	}
	written(t, h, api.OK, all[n:n+3], nil, all[n+3:n+100], []byte{}, all[n+100:])
	holds(t, h, all)
}

func TestWriteOfNothing(t *testing.T) { // P2.2
	h := digest.New()
	for _, b := range [][]byte{nil, []byte("abc"), sample(64)} {
		h = digest.New()
		written(t, h, api.OK, b)
		written(t, h, api.OK)
		written(t, h, api.OK, nil)
		written(t, h, api.OK, nil, []byte{})
		holds(t, h, b)
	}
}

func TestTagChangesNothing(t *testing.T) { // P2.2, P2.3
	all := sample(200)
	for n := range all {
		h := digest.New()
		written(t, h, api.OK, all[:n])
		first := h.Tag()
		if again := h.Tag(); again != first {
			t.Fatalf("Tag of %d bytes, asked twice: %x, %x", n, first, again)
		}
		holds(t, h, all[:n])
		written(t, h, api.OK, all[n:])
		holds(t, h, all)
		if first != asked(all[:n]) {
			t.Fatalf("the tag of %d bytes did not stay", n)
		}
	}
}

func TestJustMaxDigest(t *testing.T) { // P2.2
	all := sample(api.MaxDigest)
	half := len(all)/2 + 5
	for i, rows := range [][][]byte{
		{all},
		{all[:half], all[half:]},
		{nil, all[:1], {}, all[1:half], all[half:], nil},
	} {
		h := digest.New()
		written(t, h, api.OK, rows...)
		written(t, h, api.ErrLong, []byte{1})
		written(t, h, api.ErrLong, nil, []byte{1}, nil)
		written(t, h, api.OK)
		written(t, h, api.OK, nil, []byte{})
		if i == 0 {
			holds(t, h, all)
		}
		if h.Len() != api.MaxDigest {
			t.Errorf("Len = %d", h.Len())
		}
	}
}

func TestOneMoreThanMaxDigest(t *testing.T) { // P2.2
	all := sample(api.MaxDigest + 1)
	third := len(all) / 3
	for _, rows := range [][][]byte{
		{all},
		{all, nil},
		{all[:1], all[1:]},
		{all[1:], all[:1]},
		{all[:third], nil, all[third : 2*third], all[2*third:]},
		{all[:third], all[:third], all[:third], all[:third]},
		slices.Repeat([][]byte{all}, 50),
		{all[:api.MaxDigest], all[:api.MaxDigest]},
	} {
		h := digest.New()
		written(t, h, api.ErrLong, rows...)
		holds(t, h, nil)
		written(t, h, api.OK, []byte("abc"))
		holds(t, h, []byte("abc"))
	}
}

func TestRefusedBehindOthers(t *testing.T) { // P2.2
	h := digest.New()
	b := sample(100)
	written(t, h, api.OK, b)
	many := make([]byte, api.MaxDigest)
	written(t, h, api.ErrLong, many)
	written(t, h, api.ErrLong, many[:len(many)-99])
	written(t, h, api.ErrLong, []byte("abc"), many[:len(many)-102])
	written(t, h, api.ErrLong, many[:len(many)-100], []byte{7})
	written(t, h, api.ErrLong, many[:len(many)-101], []byte{7}, []byte{8}, nil)
	holds(t, h, b)
	written(t, h, api.OK, []byte("abc"))
	b = append(b, "abc"...)
	holds(t, h, b)
	written(t, h, api.ErrLong, many[:len(many)-102])
	written(t, h, api.OK, many[:len(many)-103])
	b = append(b, many[:len(many)-103]...)
	holds(t, h, b)
	written(t, h, api.ErrLong, many[:1])
	holds(t, h, b)
}

func TestPartedInTwo(t *testing.T) { // P2.3
	all := sample(200)
	want := asked(all)
	for n := range len(all) + 1 {
		if got := digest.Of(all[:n], all[n:]); got != want {
			t.Fatalf("Of, parted at %d = %x, want %x", n, got, want)
		}
		if got := digest.Of(nil, all[:n], []byte{}, all[n:], nil); got != want {
			t.Fatalf("Of, parted at %d by empty rows = %x, want %x", n, got, want)
		}
		two, rows := digest.New(), digest.New()
		written(t, two, api.OK, all[:n])
		written(t, two, api.OK, all[n:])
		written(t, rows, api.OK, all[:n], all[n:])
		if two.Tag() != want || rows.Tag() != want {
			t.Fatalf("written, parted at %d: %x, %x, want %x", n, two.Tag(), rows.Tag(), want)
		}
	}
}

func TestPartedInMany(t *testing.T) { // P2.3
	all := sample(1000)
	want := asked(all)
	for _, size := range []int{1, 2, 3, 7, 31, 32, 55, 56, 63, 64, 65, 127, 128, 129, 999, 1000} {
		rows := slices.Collect(slices.Chunk(all, size))
		if got := digest.Of(rows...); got != want {
			t.Errorf("Of rows of %d = %x, want %x", size, got, want)
		}
		h := digest.New()
		for _, row := range rows {
			written(t, h, api.OK, row)
		}
		if got := h.Tag(); got != want {
			t.Errorf("written by %d = %x, want %x", size, got, want)
		}
	}
}

func TestBytesInTheirOrder(t *testing.T) { // P2.1
	if digest.Of([]byte("ab"), []byte("c")) == digest.Of([]byte("c"), []byte("ab")) {
		t.Error("rows the other way round have the same tag")
	}
	if digest.Of([]byte{0}) == digest.Of() || digest.Of([]byte{128}) == digest.Of() {
		t.Error("a byte as of the filling has the tag of none")
	}
}

func TestNoHasher(t *testing.T) { // P2.2, R5
	made := digest.New()
	written(t, made, api.OK, []byte("abc"))
	copied := *made
	for name, h := range map[string]*digest.Hasher{"nil": nil, "zero": {}, "copied": &copied} {
		for _, rows := range [][][]byte{nil, {nil}, {[]byte("abc")}, {make([]byte, api.MaxDigest+1)}} {
			if got := h.Write(rows...); got != api.ErrNil {
				t.Errorf("%s: Write of %d rows: %d, want ErrNil", name, len(rows), got)
			}
			if got := h.Tag(); got != (api.Tag{}) {
				t.Errorf("%s: Tag = %x, want a zero one", name, got)
			}
			if got := h.Len(); got != 0 {
				t.Errorf("%s: Len = %d, want 0", name, got)
			}
		}
	}
	holds(t, made, []byte("abc"))
}

func TestArgumentsStay(t *testing.T) { // R3
	whole := sample(300)
	// Room behind a row would be written to by an append.
	row := whole[10:150:300]
	rows := [][]byte{row, nil, whole[150:151], whole[200:264]}
	before := slices.Clone(rows)
	h := digest.New()
	want := digest.Of(rows...)
	written(t, h, api.OK, rows...)
	h.Tag()
	if !bytes.Equal(whole, sample(300)) {
		t.Fatal("a row's bytes were changed")
	}
	for i := range rows {
		if !bytes.Equal(rows[i], before[i]) || (rows[i] == nil) != (before[i] == nil) {
			t.Fatal("the rows were changed")
		}
	}
	clear(whole)
	clear(rows)
	if got := h.Tag(); got != want {
		t.Error("the hasher keeps its rows")
	}
	written(t, h, api.OK, []byte("abc"))
	all := sample(300)
	if got := h.Tag(); got != digest.Of(all[10:150], all[150:151], all[200:264], []byte("abc")) {
		t.Error("the hasher keeps its rows behind the last block")
	}
}
