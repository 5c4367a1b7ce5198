package fen_test

import (
	"math/rand"
	"strings"
	"testing"

	"zugzwang/api"
	"zugzwang/sample"
)

// texts are those of right positions: with all castlings, after either side's leap, with long numbers, empty and full.
func texts() []string {
	return []string{
		begin,
		"r3k2r/pppq1ppp/2npbn2/2b1p3/2B1P3/2NPBN2/PPPQ1PPP/R3K2R b KQkq - 106 1019",
		"4k3/pp3ppp/8/8/3pPp2/8/PPP2PPP/4K2R b K e3 0 12",
		"r3k3/ppp2ppp/8/2PpP3/8/8/PP3PPP/4K3 w q d6 0 9999",
		"7k/1P6/8/8/8/8/6p1/K7 w - - 1024 16384",
		"qqqqkqqq/QQQQQQQQ/nnnnnnnn/bbbbbbbb/BBBBBBBB/NNNNNNNN/PPPPPPPP/RNBQKBNR b KQ - 999 16383",
	}
}

// TestBegins has each beginning of texts: it ends too early, or the text could end there.
func TestBegins(t *testing.T) { // P15.2
	var n asked
	for _, text := range texts() {
		digits := len(text) - 1 - strings.LastIndex(text, " ")
		for at := range len(text) + 1 {
			n.ask(t, text[:at])
			if at <= len(text)-digits {
				parses(t, "a beginning", text[:at], api.Position{}, at, api.ErrSyntax)
			} else {
				parses(t, "a beginning", text[:at], modelPosition(text[:at]), 0, api.OK)
			}
		}
	}
	if n.ended != n.none || n.wrong != 0 {
		t.Errorf("%d of %d beginnings end too early, %d are not right", n.ended, n.none, n.wrong)
	}
}

// TestOneByte has one byte turned into each other one, put in and left out, at each place.
func TestOneByte(t *testing.T) { // P15.2
	var n asked
	for _, text := range texts() {
		for at := range len(text) {
			for b := range 256 {
				n.ask(t, text[:at]+string([]byte{byte(b)})+text[at+1:])
				n.ask(t, text[:at]+string([]byte{byte(b)})+text[at:])
			}
			n.ask(t, text[:at]+text[at+1:])
		}
	}
	if n.right < 1500 || n.wrong < 800 || n.none < 150000 {
		t.Errorf("%d are right, %d are not, %d are none: that tries little", n.right, n.wrong, n.none)
	}
}

// TestBehind has each byte, and more of them, behind a text.
func TestBehind(t *testing.T) { // P15.2
	var n asked
	for _, text := range texts() {
		for b := range 256 {
			more := string([]byte{byte(b)})
			n.ask(t, text+more)
			n.ask(t, text+more+more)
			n.ask(t, text+" "+more)
			if b < '0' || b > '9' {
				parses(t, "a byte behind", text+more, api.Position{}, len(text), api.ErrSyntax)
			}
		}
		for _, more := range []string{text, " " + text, "\n", "\x00", "/8", " - -", " 0 1"} {
			n.ask(t, text+more)
		}
	}
	if n.right == 0 || n.none == 0 {
		t.Errorf("%d are right, %d are not, %d are none: that tries little", n.right, n.wrong, n.none)
	}
}

// TestSomeBytes has several bytes changed, left out, put in, and parts of texts changed about.
func TestSomeBytes(t *testing.T) { // P15.2
	r := rand.New(rand.NewSource(151))
	all := texts()
	for range 200 {
		all = append(all, modelText(sample.AnyRight(r.Intn)))
	}
	var n asked
	for range 60000 {
		text := []byte(all[r.Intn(len(all))])
		for range 1 + r.Intn(4) {
			at, other := r.Intn(len(text)), all[r.Intn(len(all))]
			switch r.Intn(4) {
			case 0:
				text[at] = "PNBRQKpnbrqk12345678/ wbKQkq-abcdefgh0129"[r.Intn(41)]
			case 1:
				text[at] = other[r.Intn(len(other))]
			case 2:
				text = append(text[:at], text[at+1:]...)
			case 3:
				text = append(text[:at], other[min(at, len(other)):]...)
			}
			if len(text) == 0 {
				break
			}
		}
		n.ask(t, string(text))
	}
	if n.right < 1500 || n.wrong < 600 || n.none < 20000 {
		t.Errorf("%d are right, %d are not, %d are none: that tries little", n.right, n.wrong, n.none)
	}
}

// TestLengths has texts of 128 and of 129 bytes, and of others about them.
func TestLengths(t *testing.T) { // P15.2
	for _, text := range texts() {
		for _, filler := range []string{" ", "0", "8", "/", "k", "-", "\x00", "\xff"} {
			for length := len(text) + 8; length <= 140; length++ {
				filled := text + strings.Repeat(filler, length-len(text))
				if length > 128 {
					parses(t, "a long one", filled, api.Position{}, 0, api.ErrLong)
					parses(t, "a long one, wrong ahead", filled[length-128:]+filled[:length-128], api.Position{}, 0, api.ErrLong)
				} else {
					new(asked).ask(t, filled)
				}
				if length <= 128 && filler == " " {
					parses(t, "filled", filled, api.Position{}, len(text), api.ErrSyntax)
					parses(t, "filled ahead", filled[len(text):]+text, api.Position{}, 0, api.ErrSyntax)
				}
			}
		}
	}
	for _, b := range []string{"p", "P", "8", " ", "\x00", "\xff", "a"} {
		for _, length := range []int{129, 130, 255, 256, 257, 1 << 10, 1 << 16, 1<<16 + 64, 1 << 20} {
			parses(t, "far too long", strings.Repeat(b, length), api.Position{}, 0, api.ErrLong)
			parses(t, "far too long, a text ahead", begin+strings.Repeat(b, length), api.Position{}, 0, api.ErrLong)
		}
	}
	parses(t, "128 pawns", strings.Repeat("p", 128), api.Position{}, 8, api.ErrSyntax)
	parses(t, "128 blanks", strings.Repeat(" ", 128), api.Position{}, 0, api.ErrSyntax)
	parses(t, "128 digits", strings.Repeat("8", 128), api.Position{}, 1, api.ErrSyntax)
	parses(t, "ranks of 128 bytes", strings.Repeat("8/", 64), api.Position{}, 15, api.ErrSyntax)
	parses(t, "a number of many digits", kings+" w - - "+strings.Repeat("1", 102), api.Position{}, 32, api.ErrSyntax)
	parses(t, "128 bytes, two texts", begin+" "+begin+strings.Repeat("0", 127-2*len(begin)), api.Position{}, len(begin), api.ErrSyntax)
}

// TestLongestShape has the longest texts of the shape, which none of a right position are.
func TestLongestShape(t *testing.T) { // P15.2
	ranks := "qqqqkqqq/pppppppp/nnnnnnnn/bbbbbbbb/BBBBBBBB/NNNNNNNN/PPPPPPPP/RNBQKBNR"
	longest := ranks + " b KQkq h8 999999 999999"
	parses(t, "the longest", longest, api.Position{}, 0, api.ErrArg)
	parses(t, "and a digit", longest+"9", api.Position{}, len(longest), api.ErrSyntax)
	parses(t, "and a blank", longest+" ", api.Position{}, len(longest), api.ErrSyntax)
	parses(t, "but for the last number", longest[:len(longest)-6], api.Position{}, len(longest)-6, api.ErrSyntax)
}

// TestErrorsInOrder has texts that are wrong in two ways at once.
func TestErrorsInOrder(t *testing.T) { // P15.2
	bare := "8/8/8/8/8/8/8/8"
	long := strings.Repeat("9", 129)
	for _, c := range []struct {
		what, text string
		at         int
		errno      api.Errno
	}{
		{"too long, no shape", long, 0, api.ErrLong},
		{"too long, no shape from far on", kings + rest + long, 0, api.ErrLong},
		{"too long, not right", bare + rest + long, 0, api.ErrLong},
		{"too long, by blanks alone", begin + strings.Repeat(" ", 129-len(begin)), 0, api.ErrLong},
		{"no shape, not right", bare + " w - - 0 x", 24, api.ErrSyntax},
		{"no shape, no kings", bare + " w - - 0 1 ", 25, api.ErrSyntax},
		{"no shape, no kings, cut off", bare, 15, api.ErrSyntax},
		{"no shape, a pawn at the end", "4k2P/8/8/8/8/8/8/4K3 w - - 0 01", 30, api.ErrSyntax},
		{"no shape, castlings that are lost", kings + " w KQkq e9 0 1", 28, api.ErrSyntax},
		{"no shape, a square that none went over", kings + " w - e4 -1 1", 27, api.ErrSyntax},
		{"no shape, a Half beyond", kings + " w - - 1025 1a", 32, api.ErrSyntax},
		{"no shape, a Full beyond", kings + " w - - 0 16385 ", 33, api.ErrSyntax},
		{"no shape, twice", "4k4/8/8/8/8/8/8/9 x KK i9 00 00", 2, api.ErrSyntax},
		{"not right, in many ways", bare + " b KQkq a1 999999 0", 0, api.ErrArg},
	} {
		parses(t, c.what, c.text, api.Position{}, c.at, c.errno)
	}
}
