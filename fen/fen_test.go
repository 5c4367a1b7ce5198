package fen_test

import (
	"strconv"
	"strings"
	"testing"

	"zugzwang/api"
	"zugzwang/board"
	"zugzwang/fen"
	"zugzwang/legal"
	"zugzwang/sample"
)

const (
	begin = "rnbqkbnr/pppppppp/8/8/8/8/PPPPPPPP/RNBQKBNR w KQkq - 0 1"
	kings = "4k3/8/8/8/8/8/8/4K3"
	rest  = " w - - 0 1"
)

// shows asks for a right position's text.
func shows(t *testing.T, what string, p api.Position, want string) {
	t.Helper()
	if text, errno := fen.Show(p); text != want || errno != api.OK {
		t.Errorf("%s: shown as %q, %d, want %q", what, text, errno, want)
	}
}

// parses asks what a text is parsed as.
func parses(t *testing.T, what, text string, want api.Position, place int, errno api.Errno) {
	t.Helper()
	if p, at, e := fen.Parse(text); p != want || at != place || e != errno {
		t.Errorf("%s: %q: at %d, %d, want at %d, %d; the position is what it must be: %v", what, text, at, e, place, errno, p == want)
	}
}

// bothWays asks that a position is shown as a text, and the text parsed as the position.
func bothWays(t *testing.T, what string, p api.Position, text string) {
	t.Helper()
	shows(t, what, p, text)
	parses(t, what, text, p, 0, api.OK)
}

func TestExample(t *testing.T) { // P15.1, P15.2
	bothWays(t, "the begin", board.Start(), begin)
}

// TestKnown has positions that were drawn by hand, and their texts.
func TestKnown(t *testing.T) { // P15.1, P15.2
	known := sample.Known()
	for i, text := range []string{
		begin,
		"r3k2r/p1ppqpb1/bn2pnp1/3PN3/1p2P3/2N2Q1p/PPPBBPPP/R3K2R w KQkq - 0 1",
		"8/2p5/3p4/KP5r/1R3p1k/8/4P1P1/8 w - - 0 1",
		"r3k2r/Pppp1ppp/1b3nbN/nP6/BBP1P3/q4N2/Pp1P2PP/R2Q1RK1 w kq - 0 1",
		"rnbq1k1r/pp1Pbppp/2p5/8/2B5/8/PPP1NnPP/RNBQK2R w KQ - 0 1",
		"r4rk1/1pp1qppp/p1np1n2/2b1p1B1/2B1P1b1/P1NP1N2/1PP1QPPP/R4RK1 w - - 0 1",
	} {
		bothWays(t, "a known one", known[i].Position, text)
	}
	right := sample.Right()
	for i, text := range []string{
		begin,
		"r3k2r/pppq1ppp/2npbn2/2b1p3/2B1P3/2NPBN2/PPPQ1PPP/R3K2R w KQkq - 6 9",
		"4k3/pp3ppp/8/8/3pPp2/8/PPP2PPP/4K3 b - e3 0 12",
		"4k3/ppp2ppp/8/2PpP3/8/8/PP3PPP/4K3 w - d6 0 13",
		"2n1r2k/3P4/8/8/8/8/4p3/K2R1N2 w - - 40 60",
	} {
		bothWays(t, "a right one", right[i], text)
	}
	for i, text := range []string{
		"rnbqkbnr/pppppppp/8/8/8/8/PPPPPPPP/RNBQKBNR b KQkq - 0 1",
		"r3k2r/pppq1ppp/2npbn2/2b1p3/2B1P3/2NPBN2/PPPQ1PPP/R3K2R b KQkq - 6 9",
		"4k3/ppp2ppp/8/3PpP2/8/8/PP3PPP/4K3 w - e6 0 12",
		"4k3/pp3ppp/8/8/2pPp3/8/PPP2PPP/4K3 b - d3 0 13",
		"k2r1n2/4P3/8/8/8/8/3p4/2N1R2K b - - 40 60",
	} {
		bothWays(t, "a right one, turned", board.Turn(right[i]), text)
	}
}

// TestMovers has either side move, and nothing else change.
func TestMovers(t *testing.T) { // P15.1, P15.2
	p := sample.Drawn("e1K e8k")
	bothWays(t, "white moves", p, kings+" w - - 0 1")
	bothWays(t, "black moves", sample.Black(p), kings+" b - - 0 1")
}

// TestCastlings has each set of them, with either side to move.
func TestCastlings(t *testing.T) { // P15.1, P15.2
	p := sample.Drawn("a1R e1K h1R a8r e8k h8r")
	for has, letters := range []string{"-", "K", "Q", "KQ", "k", "Kk", "Qk", "KQk", "q", "Kq", "Qq", "KQq", "kq", "Kkq", "Qkq", "KQkq"} {
		q := sample.Castle(p, api.Castle(has))
		bothWays(t, "castlings", q, "r3k2r/8/8/8/8/8/8/R3K2R w "+letters+" - 0 1")
		bothWays(t, "castlings", sample.Black(q), "r3k2r/8/8/8/8/8/8/R3K2R b "+letters+" - 0 1")
	}
	bothWays(t, "a corner each", sample.Castle(sample.Drawn("e1K h1R a8r e8k"), 9), "r3k3/8/8/8/8/8/8/4K2R w Kq - 0 1")
	bothWays(t, "other corners", sample.Castle(sample.Drawn("a1R e1K e8k h8r"), 6), "4k2r/8/8/8/8/8/8/R3K3 w Qk - 0 1")
}

// TestOver has a pawn of either side leap on each file, and the same without Over.
func TestOver(t *testing.T) { // P15.1, P15.2
	for file := range 8 {
		name := string("abcdefgh"[file])
		row := squeezed(strings.Repeat(".", file) + "p" + strings.Repeat(".", 7-file))
		p := sample.Set(sample.Drawn("e1K e8k"), name+"5p")
		bothWays(t, "no leap told", p, "4k3/8/8/"+row+"/8/8/8/4K3 w - - 0 1")
		bothWays(t, "black's leap", sample.Over(p, name+"6"), "4k3/8/8/"+row+"/8/8/8/4K3 w - "+name+"6 0 1")
		row = strings.ToUpper(row)
		p = sample.Black(sample.Set(sample.Drawn("e1K e8k"), name+"4P"))
		bothWays(t, "no leap told", p, "4k3/8/8/8/"+row+"/8/8/4K3 b - - 0 1")
		bothWays(t, "white's leap", sample.Over(p, name+"3"), "4k3/8/8/8/"+row+"/8/8/4K3 b - "+name+"3 0 1")
	}
}

// TestCounts has each Half and each Full that may be.
func TestCounts(t *testing.T) { // P15.1, P15.2
	p := sample.Drawn("e1K e8k")
	for half := range api.MaxHalf + 1 {
		bothWays(t, "a Half", sample.Counts(p, half, 7), kings+" w - - "+strconv.Itoa(half)+" 7")
	}
	for full := range api.MaxFull {
		bothWays(t, "a Full", sample.Counts(p, 3, full+1), kings+" w - - 3 "+strconv.Itoa(full+1))
	}
	bothWays(t, "both at their most", sample.Counts(p, 1024, 16384), kings+" w - - 1024 16384")
	bothWays(t, "of one digit", sample.Counts(p, 9, 9), kings+" w - - 9 9")
	bothWays(t, "of two", sample.Counts(p, 10, 10), kings+" w - - 10 10")
	bothWays(t, "with noughts in them", sample.Counts(p, 1000, 10000), kings+" w - - 1000 10000")
}

// TestRanks has ranks of each shape by hand, on each rank.
func TestRanks(t *testing.T) { // P15.1, P15.2
	for text, row := range map[string]string{
		"8":        "........",
		"nnnnnnnn": "nnnnnnnn",
		"1n6":      ".n......",
		"n7":       "n.......",
		"7n":       ".......n",
		"6n1":      "......n.",
		"n6n":      "n......n",
		"1n4n1":    ".n....n.",
		"3nn3":     "...nn...",
		"nnn2nnn":  "nnn..nnn",
		"2nnnn2":   "..nnnn..",
		"1nnnnnn1": ".nnnnnn.",
		"n1n1n1n1": "n.n.n.n.",
		"1n1n1n1n": ".n.n.n.n",
		"n2n3n":    "n..n...n",
		"nnnnnnn1": "nnnnnnn.",
		"1nnnnnnn": ".nnnnnnn",
		"PNBRQBNR": "PNBRQBNR",
		"pnbrqbnr": "pnbrqbnr",
		"P1p1N1n1": "P.p.N.n.",
		"1B1b1R1r": ".B.b.R.r",
		"Q1qQ1qQ1": "Q.qQ.qQ.",
	} {
		drawn := []string{"k......K", "........", "........", "........", "........", "........", "........", "........"}
		texts := []string{"k6K", "8", "8", "8", "8", "8", "8", "8"}
		for rank := 1; rank < 8; rank++ {
			if rank == 7 && strings.ContainsAny(row, "Pp") {
				continue
			}
			drawnHere, textsHere := append([]string{}, drawn...), append([]string{}, texts...)
			drawnHere[rank], textsHere[rank] = row, text
			bothWays(t, "a rank", sample.Board(drawnHere...), strings.Join(textsHere, "/")+rest)
		}
	}
}

// TestPatterns has each way in which squares of a rank can be taken, on each rank.
func TestPatterns(t *testing.T) { // P15.1, P15.2, P15.4
	for rank := range 8 {
		for taken := range 256 {
			p := sample.Drawn("a1K h8k")
			for file := range 8 {
				s := 8*rank + file
				if taken>>file&1 == 1 && p.Squares[s] == (api.Piece{}) {
					p.Squares[s] = sample.Piece("NBRQnbrq"[(s+taken)%8])
				}
			}
			bothWays(t, "a pattern", p, modelText(p))
		}
	}
}

// TestKinds has each piece on each square where it may stand.
func TestKinds(t *testing.T) { // P15.1, P15.2
	for _, x := range sample.Pieces() {
		for s := range 64 {
			p := sample.Drawn("a1K h8k")
			switch {
			case x.Kind == api.Pawn && (s < 8 || s > 55), s == 0, s == 63:
				continue
			case x.Kind == api.King:
				p.Squares[board.King(p, x.Side)] = api.Piece{}
			}
			p.Squares[s] = x
			bothWays(t, "a piece", p, modelText(p))
		}
	}
}

// TestLongest has the right positions of the longest texts.
func TestLongest(t *testing.T) { // P15.1, P15.2
	p := sample.Castle(sample.Counts(sample.Board("rnbqkbnr", "pppppppp", "nnnnnnnn", "bbbbbbbb", "BBBBBBBB", "NNNNNNNN", "PPPPPPPP", "RNBQKBNR"), 1024, 16384), 15)
	text := "rnbqkbnr/pppppppp/nnnnnnnn/bbbbbbbb/BBBBBBBB/NNNNNNNN/PPPPPPPP/RNBQKBNR w KQkq - 1024 16384"
	bothWays(t, "the longest", p, text)
	p = sample.Black(sample.Over(sample.Counts(sample.Castle(sample.Board("rnbqkbnr", "pppppppp", "nnnnnnnn", "bbbbbbbb", "BBBBPBBB", "NNNN.NNN", "PPPP.PPP", "RNBQKBNR"), 15), 0, 16384), "e3"))
	bothWays(t, "with Over", p, "rnbqkbnr/pppppppp/nnnnnnnn/bbbbbbbb/BBBBPBBB/NNNN1NNN/PPPP1PPP/RNBQKBNR b KQkq e3 0 16384")
}

// TestInCheck has right positions that may not be played on: whether they may does not count.
func TestInCheck(t *testing.T) { // P15.1, P15.2
	for _, c := range sample.OtherInCheck() {
		for _, p := range []api.Position{c.Position, board.Turn(c.Position)} {
			if legal.Position(p) {
				t.Fatalf("%s: may be played on", c.What)
			}
			bothWays(t, c.What, p, modelText(p))
		}
	}
	bothWays(t, "kings side by side", sample.Drawn("e4K e5k"), "8/8/8/4k3/4K3/8/8/8 w - - 0 1")
}

// TestBehindMoves has the positions behind moves of games.
func TestBehindMoves(t *testing.T) { // P15.1, P15.2
	for _, c := range []struct {
		row   string
		texts []string
	}{
		{"e2e4 e7e6 e4e5 d7d5 e5d6 f8d6 g1f3 g8f6 f1e2 e8g8 e1g1", []string{
			"rnbqkbnr/pppppppp/8/8/4P3/8/PPPP1PPP/RNBQKBNR b KQkq e3 0 1",
			"rnbqkbnr/pppp1ppp/4p3/8/4P3/8/PPPP1PPP/RNBQKBNR w KQkq - 0 2",
			"rnbqkbnr/pppp1ppp/4p3/4P3/8/8/PPPP1PPP/RNBQKBNR b KQkq - 0 2",
			"rnbqkbnr/ppp2ppp/4p3/3pP3/8/8/PPPP1PPP/RNBQKBNR w KQkq d6 0 3",
			"rnbqkbnr/ppp2ppp/3Pp3/8/8/8/PPPP1PPP/RNBQKBNR b KQkq - 0 3",
			"rnbqk1nr/ppp2ppp/3bp3/8/8/8/PPPP1PPP/RNBQKBNR w KQkq - 0 4",
			"rnbqk1nr/ppp2ppp/3bp3/8/8/5N2/PPPP1PPP/RNBQKB1R b KQkq - 1 4",
			"rnbqk2r/ppp2ppp/3bpn2/8/8/5N2/PPPP1PPP/RNBQKB1R w KQkq - 2 5",
			"rnbqk2r/ppp2ppp/3bpn2/8/8/5N2/PPPPBPPP/RNBQK2R b KQkq - 3 5",
			"rnbq1rk1/ppp2ppp/3bpn2/8/8/5N2/PPPPBPPP/RNBQK2R w KQ - 4 6",
			"rnbq1rk1/ppp2ppp/3bpn2/8/8/5N2/PPPPBPPP/RNBQ1RK1 b - - 5 6",
		}},
		{"a2a4 h7h5 a1a3 h8h6", []string{
			"rnbqkbnr/pppppppp/8/8/P7/8/1PPPPPPP/RNBQKBNR b KQkq a3 0 1",
			"rnbqkbnr/ppppppp1/8/7p/P7/8/1PPPPPPP/RNBQKBNR w KQkq h6 0 2",
			"rnbqkbnr/ppppppp1/8/7p/P7/R7/1PPPPPPP/1NBQKBNR b Kkq - 1 2",
			"rnbqkbn1/ppppppp1/7r/7p/P7/R7/1PPPPPPP/1NBQKBNR w Kq - 2 3",
		}},
		{"f2f3 e7e5 g2g4 d8h4", []string{
			"rnbqkbnr/pppppppp/8/8/8/5P2/PPPPP1PP/RNBQKBNR b KQkq - 0 1",
			"rnbqkbnr/pppp1ppp/8/4p3/8/5P2/PPPPP1PP/RNBQKBNR w KQkq e6 0 2",
			"rnbqkbnr/pppp1ppp/8/4p3/6P1/5P2/PPPPP2P/RNBQKBNR b KQkq g3 0 2",
			"rnb1kbnr/pppp1ppp/8/4p3/6Pq/5P2/PPPPP2P/RNBQKBNR w KQkq - 1 3",
		}},
	} {
		p := board.Start()
		for n, text := range c.texts {
			p, _ = legal.Play(p, sample.Moves(c.row)[n])
			bothWays(t, c.row, p, text)
		}
	}
	p := sample.Late()
	p, _ = legal.Play(p, sample.Move("d7c8Q"))
	bothWays(t, "a pawn that became a queen", p, "2Q1r2k/8/8/8/8/8/4p3/K2R1N2 b - - 0 60")
	p, _ = legal.Play(p, sample.Move("e2d1N"))
	bothWays(t, "a pawn that became a knight", p, "2Q1r2k/8/8/8/8/8/8/K2n1N2 w - - 0 61")
}

func TestAlikeEachTime(t *testing.T) { // R3, R4
	for _, p := range sample.Right() {
		was, text := p, modelText(p)
		for range 20 {
			bothWays(t, "once more", p, text)
			parses(t, "cut off, once more", text[:30], api.Position{}, 30, api.ErrSyntax)
		}
		if p != was {
			t.Errorf("%v became %v", was, p)
		}
	}
}
