package fen_test

import (
	"bytes"
	"math/rand"
	"slices"
	"strings"
	"testing"

	"zugzwang/fen"
)

// parted asks for the parts of a text, that they may be written over, and that they come anew each time.
func parted(t *testing.T, text string, want ...string) {
	t.Helper()
	for range 2 {
		got := fen.Parts(text)
		if !slices.Equal(got, want) {
			t.Errorf("%q: parts %q, want %q", text, got, want)
		}
		for i := range got {
			got[i] = "written over"
		}
		_ = append(got, "put behind")
	}
}

func TestParts(t *testing.T) { // P15.3
	parted(t, "", "")
	parted(t, "a", "a")
	parted(t, "abc", "abc")
	parted(t, " ", "", "")
	parted(t, "  ", "", "", "")
	parted(t, "   ", "", "", "", "")
	parted(t, "a b", "a", "b")
	parted(t, "a  b", "a", "", "b")
	parted(t, "a   b", "a", "", "", "b")
	parted(t, " a", "", "a")
	parted(t, "a ", "a", "")
	parted(t, " a ", "", "a", "")
	parted(t, "  a  ", "", "", "a", "", "")
	parted(t, " a  b", "", "a", "", "b")
	parted(t, "a b c d e f g", "a", "b", "c", "d", "e", "f", "g")
	parted(t, "a b a b", "a", "b", "a", "b")
	parted(t, begin, "rnbqkbnr/pppppppp/8/8/8/8/PPPPPPPP/RNBQKBNR", "w", "KQkq", "-", "0", "1")
	parted(t, begin+" ", "rnbqkbnr/pppppppp/8/8/8/8/PPPPPPPP/RNBQKBNR", "w", "KQkq", "-", "0", "1", "")
	parted(t, "world table 0 0 none", "world", "table", "0", "0", "none")
}

// TestPartsOfOtherBytes has bytes that part elsewhere, and here do not.
func TestPartsOfOtherBytes(t *testing.T) { // P15.3
	for b := range 256 {
		if b == ' ' {
			continue
		}
		one := string([]byte{byte(b)})
		parted(t, one, one)
		parted(t, one+one, one+one)
		parted(t, "a"+one+"b", "a"+one+"b")
		parted(t, one+" "+one, one, one)
		parted(t, " "+one+"  a"+one, "", one, "", "a"+one)
	}
	for _, one := range []string{"\t\n\v\f\r", "\r\n", "\u00a0", "\u2003", "\u3000", "é", "\xc2", "\xa0", "/", "-", "\x00"} {
		parted(t, one, one)
		parted(t, one+" "+one+" ", one, one, "")
	}
}

// TestPartsAnyText has texts of blanks and others: one more part than blanks, none with a blank, that come to the text again.
func TestPartsAnyText(t *testing.T) { // P15.3
	r := rand.New(rand.NewSource(156))
	for range 5000 {
		text := make([]byte, r.Intn(200))
		for i := range text {
			text[i] = " ab\t\x00\xff"[r.Intn(6)]
		}
		s := string(text)
		all := fen.Parts(s)
		if len(all) != 1+bytes.Count(text, []byte(" ")) || strings.Join(all, " ") != s {
			t.Fatalf("%q: parts %q", s, all)
		}
		for _, part := range all {
			if strings.Contains(part, " ") {
				t.Fatalf("%q: part %q", s, part)
			}
		}
	}
}

// TestPartsOfLongTexts has texts beyond any limit of a position's.
func TestPartsOfLongTexts(t *testing.T) { // P15.3
	for _, n := range []int{127, 128, 129, 1 << 10, 1 << 16, 1 << 18, 1 << 20} {
		parted(t, strings.Repeat("a", n), strings.Repeat("a", n))
		if all := fen.Parts(strings.Repeat(" ", n)); len(all) != n+1 || slices.ContainsFunc(all, func(part string) bool { return part != "" }) {
			t.Errorf("%d blanks: %d parts", n, len(all))
		}
		if all := fen.Parts(strings.Repeat("ab ", n)); len(all) != n+1 || all[0] != "ab" || all[n-1] != "ab" || all[n] != "" {
			t.Errorf("%d words: %d parts", n, len(all))
		}
	}
}

// TestPartsApart has two lists of one text: neither's parts are the other's.
func TestPartsApart(t *testing.T) { // P15.3, R3
	one, other := fen.Parts(begin), fen.Parts(begin)
	for i := range one {
		one[i] = ""
	}
	if strings.Join(other, " ") != begin {
		t.Errorf("%q", other)
	}
	one = fen.Parts("a b c")
	first := append(one[:1], "x")
	if first[1] != "x" || !slices.Equal(fen.Parts("a b c"), []string{"a", "b", "c"}) {
		t.Errorf("%q", first)
	}
}
