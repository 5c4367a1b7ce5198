package mac_test

import (
	"bytes"
	"crypto/hmac"
	"crypto/sha256"
	"encoding/hex"
	"slices"
	"strings"
	"testing"

	"zugzwang/api"
	"zugzwang/digest"
	"zugzwang/mac"
)

// sample are n bytes that a short rule makes from a seed, no two blocks alike.
func sample(seed uint32, n int) []byte {
	b := make([]byte, n)
	x := seed
	for i := range b {
		x = x*1664525 + 1013904223
		b[i] = byte(x >> 24)
	}
	return b
}

func key(n int) []byte  { return sample(2463534242, n) }
func text(n int) []byte { return sample(362436069, n) }

func asked(key, b []byte) api.Tag {
	h := hmac.New(sha256.New, key)
	h.Write(b)
	return api.Tag(h.Sum(nil))
}

func noughtsBehind(key []byte, n int) []byte {
	return append(slices.Clone(key), make([]byte, n)...)
}

func is(t *testing.T, key []byte, want api.Tag, rows ...[]byte) {
	t.Helper()
	if got := mac.Of(key, rows...); got != want {
		t.Fatalf("Of %d rows under a key of %d = %x, want %x", len(rows), len(key), got, want)
	}
	checks(t, api.OK, key, want, rows...)
}

func checks(t *testing.T, want api.Errno, key []byte, tag api.Tag, rows ...[]byte) {
	t.Helper()
	if got := mac.Check(key, tag, rows...); got != want {
		t.Fatalf("Check %x of %d rows under a key of %d: %d, want %d", tag, len(rows), len(key), got, want)
	}
}

func TestOfExamples(t *testing.T) { // P3.1
	for _, c := range []struct{ key, text, want string }{
		{"Jefe", "what do ya want for nothing?", "5bdcc146bf60754e6a042426089575c75a003f089d2739839dec58b964ec3843"},
		{"", "", "b613679a0814d9ec772f95d778c35fc5ff1697c493715653c6c712144292c5ad"},
		{"key", "The quick brown fox jumps over the lazy dog", "f7bc83f430538424b13298e6aa6fb143ef4d59a14946175997479dbc2d1a3cd8"},
		{strings.Repeat("\x0b", 20), "Hi There", "b0344c61d8db38535ca8afceaf0bf12b881dc200c9833da726e9376c2e32cff7"},
		{strings.Repeat("\xaa", 131), "Test Using Larger Than Block-Size Key - Hash Key First", "60e431591ee0b67f0d8a26aacbf5b77f8e0bc6213728c5140546040f0ee37f54"},
	} {
		want, err := hex.DecodeString(c.want)
		if err != nil {
			t.Fatal(err)
		}
		is(t, []byte(c.key), api.Tag(want), []byte(c.text))
	}
}

func TestOfAsWritten(t *testing.T) { // P3.1
	for _, n := range []int{0, 1, 32, 63, 64} {
		inner, outer := make([]byte, 64), make([]byte, 64)
		for i := range 64 {
			var x byte
			if i < n {
				x = key(n)[i]
			}
			inner[i], outer[i] = x^0x36, x^0x5c
		}
		tag := digest.Of(inner, text(100))
		is(t, key(n), digest.Of(outer, tag[:]), text(100))
	}
}

func TestOfEachKeyLength(t *testing.T) { // P3.1
	lengths := []int{255, 256, 257, 1000, 5000, api.MaxDigest + 1}
	for n := range 200 {
		lengths = append(lengths, n)
	}
	for _, n := range lengths {
		is(t, key(n), asked(key(n), text(77)), text(77))
	}
}

func TestOfEachLength(t *testing.T) { // P3.1
	for n := range 200 {
		for _, k := range []int{0, 20, 64, 65} {
			is(t, key(k), asked(key(k), text(n)), text(n))
		}
	}
}

func TestOfEachKeyByte(t *testing.T) { // P3.1
	for x := range 256 {
		for _, n := range []int{1, 64, 65} {
			k := bytes.Repeat([]byte{byte(x)}, n)
			is(t, k, asked(k, text(10)), text(10))
		}
	}
}

func TestOfMoreThanAHasherTakes(t *testing.T) { // P3.1
	for _, n := range []int{api.MaxDigest - 64, api.MaxDigest - 63, api.MaxDigest, api.MaxDigest + 1} {
		b := text(n)
		want := asked(key(20), b)
		if got := mac.Of(key(20), b[:n/3], b[n/3:]); got != want {
			t.Fatalf("Of %d bytes = %x, want %x", n, got, want)
		}
	}
}

func TestNoKey(t *testing.T) { // P3.1
	for _, b := range [][]byte{nil, text(1), text(64), text(100)} {
		want := asked(nil, b)
		is(t, nil, want, b)
		is(t, []byte{}, want, b)
		is(t, make([]byte, 64), want, b)
		if got := digest.Of(b); got == want {
			t.Errorf("under no key %d bytes have their own tag %x", len(b), got)
		}
	}
}

func TestOfWithoutBytes(t *testing.T) { // P3.1
	for _, n := range []int{0, 4, 64, 65} {
		want := asked(key(n), nil)
		for _, rows := range [][][]byte{nil, {}, {nil}, {{}}, {nil, {}, nil}, slices.Repeat([][]byte{{}}, 100)} {
			is(t, key(n), want, rows...)
		}
	}
}

func TestSameOfAlike(t *testing.T) { // P3.1
	for _, tag := range []api.Tag{{}, {1}, {31: 1}, api.Tag(text(32)), api.Tag(bytes.Repeat([]byte{255}, 32))} {
		if other := tag; !mac.Same(tag, other) {
			t.Errorf("%x is not the same as itself", tag)
		}
	}
}

func TestSameOfOneUnlikeBit(t *testing.T) { // P3.1
	for _, tag := range []api.Tag{{}, api.Tag(text(32))} {
		for place := range 8 * len(tag) {
			other := tag
			other[place/8] ^= 1 << (place % 8)
			if mac.Same(tag, other) || mac.Same(other, tag) {
				t.Errorf("%x is the same as %x", tag, other)
			}
		}
	}
}

func TestSameOfManyUnlikeBytes(t *testing.T) { // P3.1
	tag := api.Tag(text(32))
	for i := range tag {
		for j := range i {
			// Two bytes unlike by the same places: neither a sum nor a turning of them may hide it.
			other := tag
			other[i] ^= 0x80
			other[j] ^= 0x80
			if mac.Same(tag, other) {
				t.Errorf("unlike at %d and %d, and the same", i, j)
			}
			other = tag
			other[i], other[j] = other[i]+1, other[j]-1
			if mac.Same(tag, other) {
				t.Errorf("one more at %d, one less at %d, and the same", i, j)
			}
		}
	}
	turned := tag
	slices.Reverse(turned[:])
	if mac.Same(tag, turned) {
		t.Error("a tag is the same as itself from behind")
	}
	for i := range tag {
		turned[i] = ^tag[i]
	}
	if mac.Same(tag, turned) {
		t.Error("a tag is the same as one that is unlike at each place")
	}
}

func TestCheckEachBit(t *testing.T) { // P3.2
	tag := asked(key(20), text(50))
	checks(t, api.OK, key(20), tag, text(50))
	for place := range 8 * len(tag) {
		other := tag
		other[place/8] ^= 1 << (place % 8)
		checks(t, api.ErrTag, key(20), other, text(50))
	}
}

func TestCheckOtherKey(t *testing.T) { // P3.2
	for _, n := range []int{1, 20, 63, 64, 65, 200} {
		k := key(n)
		tag := asked(k, text(50))
		checks(t, api.OK, k, tag, text(50))
		checks(t, api.ErrTag, nil, tag, text(50))
		checks(t, api.ErrTag, k[:n-1], tag, text(50))
		checks(t, api.ErrTag, key(n+1), tag, text(50))
		checks(t, api.ErrTag, slices.Concat([]byte{0}, k), tag, text(50))
		for _, i := range []int{0, n / 2, n - 1} {
			other := slices.Clone(k)
			other[i] ^= 1
			checks(t, api.ErrTag, other, tag, text(50))
		}
	}
}

func TestCheckOtherRows(t *testing.T) { // P3.2
	k := key(20)
	tag := asked(k, []byte("abc"))
	checks(t, api.OK, k, tag, []byte("a"), []byte("bc"))
	for _, rows := range [][][]byte{
		nil,
		{nil},
		{[]byte("ab")},
		{[]byte("bc")},
		{[]byte("abd")},
		{[]byte("abcd")},
		{[]byte("abc\x00")},
		{[]byte("\x00abc")},
		{[]byte("bc"), []byte("a")},
		{[]byte("abc"), []byte("abc")},
		{[]byte("abc"), nil, {0}},
		{k, []byte("abc")},
	} {
		checks(t, api.ErrTag, k, tag, rows...)
	}
}

func TestCheckOtherTags(t *testing.T) { // P3.2
	k := key(20)
	checks(t, api.ErrTag, k, api.Tag{}, []byte("abc"))
	checks(t, api.ErrTag, k, digest.Of([]byte("abc")), []byte("abc"))
	checks(t, api.ErrTag, k, digest.Of(k, []byte("abc")), []byte("abc"))
	checks(t, api.ErrTag, []byte("abc"), asked(k, []byte("abc")), k)
	checks(t, api.ErrTag, nil, api.Tag{})
}

func TestPartedInTwo(t *testing.T) { // P3.3
	all := text(150)
	for _, n := range []int{0, 20, 65} {
		want := asked(key(n), all)
		for i := range len(all) + 1 {
			is(t, key(n), want, all[:i], all[i:])
			is(t, key(n), want, nil, all[:i], []byte{}, all[i:], nil)
		}
	}
}

func TestPartedInMany(t *testing.T) { // P3.3
	all := text(1000)
	want := asked(key(20), all)
	for _, size := range []int{1, 2, 7, 31, 32, 55, 56, 63, 64, 65, 128, 999, 1000} {
		is(t, key(20), want, slices.Collect(slices.Chunk(all, size))...)
	}
}

func TestKeyIsNoRow(t *testing.T) { // P3.1
	all := text(40)
	tag := mac.Of(all[:20], all[20:])
	for _, n := range []int{0, 10, 19, 21, 40} {
		if got := mac.Of(all[:n], all[n:]); got == tag {
			t.Errorf("a key of %d has the tag of a key of 20", n)
		}
	}
}

func TestNoughtsBehindAKey(t *testing.T) { // P3.3
	for _, n := range []int{0, 1, 20, 32, 63, 64} {
		want := asked(key(n), text(50))
		for more := range 64 - n + 1 {
			is(t, noughtsBehind(key(n), more), want, text(50))
		}
		for _, length := range []int{65, 66, 100, 128} {
			k := noughtsBehind(key(n), length-n)
			checks(t, api.ErrTag, k, want, text(50))
			is(t, k, asked(k, text(50)), text(50))
		}
	}
}

func TestLongKeyIsItsTag(t *testing.T) { // P3.3
	for _, n := range []int{65, 66, 128, 1000} {
		short := digest.Of(key(n))
		want := asked(key(n), text(50))
		is(t, key(n), want, text(50))
		is(t, short[:], want, text(50))
		is(t, noughtsBehind(short[:], 32), want, text(50))
	}
	for _, n := range []int{0, 32, 63, 64} {
		short := digest.Of(key(n))
		checks(t, api.ErrTag, short[:], asked(key(n), text(50)), text(50))
	}
}

func TestArgumentsStay(t *testing.T) { // R3
	for _, n := range []int{0, 20, 64, 65, 100} {
		whole, keys := text(300), key(200)
		// Room behind a key, a row, and the list of rows would be written to by an append.
		k := keys[:n]
		list := [][]byte{whole[10:150], nil, {}, whole[200:264], {7}, {8}}
		rows := list[:4]
		want := mac.Of(k, rows...)
		checks(t, api.OK, k, want, rows...)
		if again := mac.Of(k, rows...); again != want {
			t.Fatalf("asked twice: %x, %x", want, again)
		}
		if !bytes.Equal(keys, key(200)) {
			t.Fatalf("the key of %d was changed", n)
		}
		if !bytes.Equal(whole, text(300)) {
			t.Fatal("a row's bytes were changed")
		}
		asBefore := [][]byte{text(300)[10:150], nil, {}, text(300)[200:264], {7}, {8}}
		for i, row := range list {
			if !bytes.Equal(row, asBefore[i]) || (row == nil) != (asBefore[i] == nil) {
				t.Fatalf("the row %d was changed", i)
			}
		}
	}
}

func TestNothingIsKept(t *testing.T) { // R3, R4
	k, row := key(20), text(50)
	rows := [][]byte{row}
	first := mac.Of(k, rows...)
	clear(k)
	clear(row)
	is(t, k, asked(make([]byte, 20), make([]byte, 50)), row)
	clear(rows)
	is(t, k, asked(nil, nil), rows...)
	is(t, key(20), first, text(50))
}

func TestKeyAmongTheRows(t *testing.T) { // P3.1, R3
	for _, n := range []int{20, 64, 65} {
		k := key(n)
		is(t, k, asked(key(n), slices.Concat(key(n), key(n))), k, k)
	}
}
