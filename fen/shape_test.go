package fen_test

import (
	"strings"
	"testing"

	"zugzwang/api"
)

// cut is a text that is none: what can stand there, and the rest, of which the first byte can not.
type cut struct{ what, ahead, behind string }

// refuses asks for the place of what can not stand there.
func refuses(t *testing.T, all []cut) {
	t.Helper()
	for _, c := range all {
		parses(t, c.what, c.ahead+c.behind, api.Position{}, len(c.ahead), api.ErrSyntax)
		new(asked).ask(t, c.ahead+c.behind)
	}
}

func TestRanksOfOtherLengths(t *testing.T) { // P15.2
	refuses(t, []cut{
		{"seven squares, by letters", "rnbqkbn", "/pppppppp/8/8/8/8/PPPPPPPP/RNBQKBNR w KQkq - 0 1"},
		{"seven squares, by letters, at last", "rnbqkbnr/pppppppp/8/8/8/8/PPPPPPPP/RNBQKBN", " w KQkq - 0 1"},
		{"seven squares, by a digit", "4k3/7", "/8/8/8/8/8/4K3" + rest},
		{"seven squares, by both", "3k3", "/8/8/8/8/8/8/4K3" + rest},
		{"seven squares, by both, at last", "4k3/8/8/8/8/8/8/3K3", rest},
		{"one square", "k", "/8/8/8/8/8/8/4K3" + rest},
		{"one empty square", "4k3/1", "/8/8/8/8/8/4K3" + rest},
		{"none", "", "/8/8/8/8/8/8/4K3" + rest},
		{"none, later", "4k3/", "/8/8/8/8/8/4K3" + rest},
		{"none, at last", "4k3/8/8/8/8/8/8/", rest},
		{"nine squares, by letters", "rnbqkbnr", "r/pppppppp/8/8/8/8/PPPPPPPP/RNBQKBNR w KQkq - 0 1"},
		{"nine squares, by letters, at last", "rnbqkbnr/pppppppp/8/8/8/8/PPPPPPPP/RNBQKBNR", "R w KQkq - 0 1"},
		{"nine squares, by a digit behind a letter", "4k3/r", "8/8/8/8/8/8/4K3" + rest},
		{"nine squares, by a letter behind a digit", "4k3/8", "r/8/8/8/8/8/4K3" + rest},
		{"nine squares, by both", "4k", "4/8/8/8/8/8/8/4K3" + rest},
		{"nine squares, by both, at last", "4k3/8/8/8/8/8/8/4K", "4" + rest},
		{"nine squares, letters about a digit", "4k3/rr5r", "r/8/8/8/8/8/4K3" + rest},
		{"far too many", "4k3/1r1r1r", "8/8/8/8/8/8/4K3" + rest},
	})
}

func TestDigits(t *testing.T) { // P15.2
	refuses(t, []cut{
		{"nought", "", "0/8/8/8/8/8/8/8" + rest},
		{"nought, later", "4k3/", "0/8/8/8/8/8/4K3" + rest},
		{"nought behind a letter", "4k3/r", "07/8/8/8/8/8/4K3" + rest},
		{"nought ahead of a digit", "4k3/", "08/8/8/8/8/8/4K3" + rest},
		{"nought behind a full rank", "4k3", "0/8/8/8/8/8/8/4K3" + rest},
		{"nought behind a digit", "4k3/1", "0r6/8/8/8/8/8/4K3" + rest},
		{"nine", "", "9/8/8/8/8/8/8/8" + rest},
		{"nine, later", "4k3/", "9/8/8/8/8/8/4K3" + rest},
		{"nine, at last", "4k3/8/8/8/8/8/8/", "9" + rest},
		{"two in a row", "4", "4/8/8/8/8/8/8/8" + rest},
		{"two in a row, later", "4k3/8/8/2", "6/8/8/8/4K3" + rest},
		{"two in a row, and too many", "4k3/7", "7/8/8/8/8/8/4K3" + rest},
		{"two in a row behind a letter", "k1", "6/8/8/8/8/8/8/4K3" + rest},
		{"two in a row ahead of a letter", "1", "3k3/8/8/8/8/8/8/4K3" + rest},
		{"eight in a row", "4k3/1", "1111111/8/8/8/8/8/4K3" + rest},
		{"ten", "4k3/1", "0/8/8/8/8/8/4K3" + rest},
	})
}

func TestNumbersOfRanks(t *testing.T) { // P15.2
	refuses(t, []cut{
		{"seven", "4k3/8/8/8/8/8/4K3", rest},
		{"one", "4k3", rest},
		{"nine", "4k3/8/8/8/8/8/8/4K3", "/8" + rest},
		{"nine, the first empty", "8/8/8/8/8/8/8/8", "/8" + rest},
		{"eight, and the edge of a ninth", "4k3/8/8/8/8/8/8/4K3", "/" + rest},
		{"an edge ahead", "", "/" + kings + rest},
		{"two edges", "4k3/", "/8/8/8/8/8/8/4K3" + rest},
		{"another edge", "4k3", "\\8\\8\\8\\8\\8\\8\\4K3" + rest},
		{"a blank for an edge", "4k3", " 8/8/8/8/8/8/4K3" + rest},
	})
}

func TestLetters(t *testing.T) { // P15.2
	refuses(t, []cut{
		{"no piece's", "4", "x3/8/8/8/8/8/8/4K3" + rest},
		{"no piece's, the side's", "4k3/", "w7/8/8/8/8/8/4K3" + rest},
		{"none", "4k3/", ".......r/8/8/8/8/8/4K3" + rest},
		{"a blank in a rank", "4k3/r", " r6/8/8/8/8/8/4K3" + rest},
		{"a minus in a rank", "4k3/r", "-r5/8/8/8/8/8/4K3" + rest},
		{"a minus for a position", "", "-" + rest},
	})
	for b := range 256 {
		if l := string([]byte{byte(b)}); !strings.Contains("12345678PNBRQKpnbrqk", l) {
			refuses(t, []cut{
				{"a byte that is no letter", "", l + "7/8/8/8/8/8/8/8" + rest},
				{"a byte that is no letter, in a rank", "4k3/8/8/1r", l + "5/8/8/8/4K3" + rest},
				{"a byte that is no letter, at last", "4k3/8/8/8/8/8/8/4K2", l + rest},
			})
		}
	}
}

func TestSides(t *testing.T) { // P15.2
	refuses(t, []cut{
		{"a great one", kings + " ", "W - - 0 1"},
		{"another great one", kings + " ", "B - - 0 1"},
		{"none", kings + " ", " - - 0 1"},
		{"left out", kings + " ", "- - 0 1"},
		{"both", kings + " w", "b - - 0 1"},
		{"twice", kings + " b", "b - - 0 1"},
		{"spelt out", kings + " w", "hite - - 0 1"},
		{"a number", kings + " ", "0 - - 0 1"},
	})
}

func TestWrongCastlings(t *testing.T) { // P15.2
	corners := "r3k2r/8/8/8/8/8/8/R3K2R w "
	refuses(t, []cut{
		{"out of order", corners + "Q", "K - 0 1"},
		{"out of order, of either side", corners + "k", "K - 0 1"},
		{"out of order, of either side", corners + "q", "Q - 0 1"},
		{"out of order, black's", corners + "KQq", "k - 0 1"},
		{"out of order, black's ahead of white's", corners + "kq", "KQ - 0 1"},
		{"out of order, all turned round", corners + "q", "kQK - 0 1"},
		{"twice", corners + "K", "K - 0 1"},
		{"twice, the last", corners + "q", "q - 0 1"},
		{"all twice", corners + "KQkq", "KQkq - 0 1"},
		{"one twice, behind all", corners + "KQkq", "K - 0 1"},
		{"none behind some", corners + "KQ", "- - 0 1"},
		{"some behind none", corners + "-", "KQ - 0 1"},
		{"none, twice", corners + "-", "- - 0 1"},
		{"nothing", corners, " - 0 1"},
		{"another letter", corners, "R - 0 1"},
		{"another letter, behind some", corners + "K", "a - 0 1"},
		{"a number", corners, "15 - 0 1"},
	})
	var n asked
	for _, has := range upTo(5, "KQkq-") {
		n.ask(t, corners+has+" - 0 1")
		n.ask(t, corners+has)
		n.ask(t, kings+" b "+has+" - 0 1")
	}
	if n.right != 16+1 || n.wrong != 15 {
		t.Errorf("%d are right, %d are not, %d are none", n.right, n.wrong, n.none)
	}
}

// upTo are all texts of some letters of at most so many.
func upTo(most int, letters string) []string {
	all := []string{""}
	for from, n := 0, 0; n < most; n++ {
		to := len(all)
		for _, begin := range all[from:to] {
			for i := range len(letters) {
				all = append(all, begin+letters[i:i+1])
			}
		}
		from = to
	}
	return all
}

func TestWrongOver(t *testing.T) { // P15.2
	leapt := "4k3/8/8/4p3/8/8/8/4K3 w - "
	refuses(t, []cut{
		{"a file beyond the last", leapt, "i6 0 1"},
		{"a great letter", leapt, "E6 0 1"},
		{"a rank beyond the last", leapt + "e", "9 0 1"},
		{"a rank ahead of the first", leapt + "e", "0 0 1"},
		{"half of a name", leapt + "e", " 0 1"},
		{"the other half", leapt, "6 0 1"},
		{"turned round", leapt, "6e 0 1"},
		{"two files", leapt + "e", "e 0 1"},
		{"two ranks", leapt + "e6", "6 0 1"},
		{"two squares", leapt + "e6", "e6 0 1"},
		{"none, and a square", leapt + "-", "e6 0 1"},
		{"a file, and none", leapt + "e", "- 0 1"},
		{"a square, and none", leapt + "e6", "- 0 1"},
		{"none, twice", leapt + "-", "- 0 1"},
		{"nothing", leapt, " 0 1"},
		{"left out", leapt, "0 1"},
		{"a square's number", leapt, "44 0 1"},
	})
	var n asked
	for a := range 256 {
		for b := range 256 {
			n.ask(t, leapt+string([]byte{byte(a), byte(b)})+" 0 1")
		}
	}
	if n.right != 1 || n.wrong != 63 || n.none != 1<<16-64 {
		t.Errorf("%d are right, %d are not, %d are none", n.right, n.wrong, n.none)
	}
}

func TestWrongNumbers(t *testing.T) { // P15.2
	refuses(t, []cut{
		{"a nought ahead", kings + " w - - 0", "0 1"},
		{"a nought ahead of another digit", kings + " w - - 0", "7 1"},
		{"seven digits", kings + " w - - 100000", "0 1"},
		{"seven nines", kings + " w - - 999999", "9 1"},
		{"far too many digits", kings + " w - - 184467", "44073709551616 1"},
		{"none", kings + " w - - ", " 1"},
		{"a minus ahead", kings + " w - - ", "-1 1"},
		{"a plus ahead", kings + " w - - ", "+1 1"},
		{"a minus", kings + " w - - ", "- 1"},
		{"a broken one", kings + " w - - 1", ".5 1"},
		{"of sixteen digits", kings + " w - - 0", "x1 1"},
		{"with a letter", kings + " w - - 1", "e3 1"},
		{"parted", kings + " w - - 1", "_000 1"},
		{"two blanks behind", kings + " w - - 0 ", " 1"},
		{"a nought ahead, at last", kings + " w - - 0 0", "1"},
		{"two noughts, at last", kings + " w - - 0 0", "0"},
		{"seven digits, at last", kings + " w - - 0 100000", "0"},
		{"seven digits that are one, at last", kings + " w - - 0 0", "000001"},
		{"far too many, at last", kings + " w - - 0 429496", "7297"},
		{"none, at last", kings + " w - - 0 ", ""},
		{"not even a blank, at last", kings + " w - - 0", ""},
		{"a minus ahead, at last", kings + " w - - 0 ", "-1"},
		{"two blanks, at last", kings + " w - - 0 ", " 1"},
		{"a blank behind", kings + " w - - 0 1", " "},
		{"a line's end behind", kings + " w - - 0 1", "\n"},
		{"a byte 0 behind", kings + " w - - 0 1", "\x00"},
		{"another number behind", kings + " w - - 0 1", " 1"},
		{"a letter behind", kings + " w - - 0 1", "w"},
		{"bytes behind that are a text", kings + " w - - 0 1", kings[1:] + rest},
	})
	var n asked
	for _, number := range upTo(8, "07") {
		n.ask(t, kings+" w - - "+number+" 7")
		n.ask(t, kings+" b - - 7 "+number)
	}
	if n.right != 8+15 {
		t.Errorf("%d are right, %d are not, %d are none", n.right, n.wrong, n.none)
	}
}

// TestWrongBlanks has other bytes for each blank, more of them, and none.
func TestWrongBlanks(t *testing.T) { // P15.2
	for n, b := range []byte(begin) {
		if b != ' ' {
			continue
		}
		for _, other := range []string{"\t", "\n", "\r", "\x00", "_", ",", "/", "\v", "\u00a0", "\u2003"} {
			refuses(t, []cut{
				{"another byte", begin[:n], other + begin[n+1:]},
				{"another byte ahead", begin[:n], other + begin[n:]},
				{"another byte behind", begin[:n+1], other + begin[n+1:]},
			})
		}
		refuses(t, []cut{
			{"two", begin[:n+1], begin[n:]},
			{"none", begin[:n], begin[n+1:]},
		})
	}
	refuses(t, []cut{
		{"one alone", "", " "},
		{"one ahead", "", " " + begin},
		{"a mark of an order of bytes ahead", "", "\xef\xbb\xbf" + begin},
		{"one behind", begin, " "},
	})
}

// TestBytesBeyond has bytes of 128 and more, alone and as letters of more bytes, that are like others but for a bit, or stand for them elsewhere.
func TestBytesBeyond(t *testing.T) { // P15.2
	for n := range len(begin) + 1 {
		for b := 128; b < 256; b++ {
			refuses(t, []cut{{"a byte beyond", begin[:n], string([]byte{byte(b)}) + begin[n:]}})
		}
		for _, other := range []string{"é", "К", "♔", "８", "𝟖", "\u00a0", "\xff\xfe"} {
			refuses(t, []cut{{"a letter of more bytes", begin[:n], other + begin[n:]}})
		}
		if n < len(begin) {
			refuses(t, []cut{{"the same byte with a bit more", begin[:n], string([]byte{begin[n] | 128}) + begin[n+1:]}})
		}
	}
}
