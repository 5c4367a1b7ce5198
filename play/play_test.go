package play_test

import (
	"math"
	"slices"
	"strings"
	"testing"

	"zugzwang/api"
	"zugzwang/board"
	"zugzwang/play"
)

// leads has a move made, alone and as a row of one.
func leads(t *testing.T, p api.Position, m api.Move, want api.Position) {
	t.Helper()
	ahead := p
	got, errno := play.Move(p, m)
	if errno != api.OK || got != want {
		t.Errorf("%v: %d, %v, want %v", m, errno, got, want)
	}
	if got, errno := play.Moves(p, m); errno != api.OK || got != want {
		t.Errorf("the row of %v: %d, %v, want %v", m, errno, got, want)
	}
	if p != ahead {
		t.Errorf("%v changed its position", m)
	}
}

func takes(t *testing.T, p api.Position, m api.Move, want int) {
	t.Helper()
	if got := play.Takes(p, m); got != want {
		t.Errorf("%v takes on %d, want %d", m, got, want)
	}
}

func refused(t *testing.T, p api.Position, m api.Move, want api.Errno) {
	t.Helper()
	if got, errno := play.Move(p, m); errno != want || got != (api.Position{}) {
		t.Errorf("%v: %d, want %d; %v", m, errno, want, got)
	}
	if got, errno := play.Moves(p, m); errno != want || got != (api.Position{}) {
		t.Errorf("the row of %v: %d, want %d; %v", m, errno, want, got)
	}
	takes(t, p, m, api.NoSquare)
}

func TestOrdinary(t *testing.T) { // P8.1, P8.2
	opened := behind(begin(), "e2. e4P", "e3", 15, 0, 1)
	black := blackMoves(midst())
	for _, c := range []struct {
		p          api.Position
		move       string
		puts       string
		takes      string
		over       string
		castle     api.Castle
		half, full int
	}{
		{begin(), "e2e4", "e2. e4P", "", "e3", 15, 0, 1},
		{begin(), "e2e3", "e2. e3P", "", "", 15, 0, 1},
		{begin(), "g1f3", "g1. f3N", "", "", 15, 1, 1},
		{begin(), "b1c3", "b1. c3N", "", "", 15, 1, 1},
		{begin(), "d1d7", "d1. d7Q", "d7", "", 15, 0, 1},
		{begin(), "d1e1", "d1. e1Q", "e1", "", 12, 0, 1},
		{opened, "g8f6", "g8. f6n", "", "", 15, 1, 2},
		{opened, "e7e5", "e7. e5p", "", "e6", 15, 0, 2},
		{opened, "d7d6", "d7. d6p", "", "", 15, 0, 2},
		{opened, "d8e4", "d8. e4q", "e4", "", 15, 0, 2},
		{midst(), "e1g1", "e1. g1K h1. f1R", "", "", 12, 7, 9},
		{midst(), "e1c1", "e1. c1K a1. d1R", "", "", 12, 7, 9},
		{midst(), "e1e2", "e1. e2K", "", "", 12, 7, 9},
		{midst(), "c3d5", "c3. d5N", "", "", 15, 7, 9},
		{midst(), "c4e6", "c4. e6B", "e6", "", 15, 0, 9},
		{midst(), "f3e5", "f3. e5N", "e5", "", 15, 0, 9},
		{midst(), "h1g1", "h1. g1R", "", "", 14, 7, 9},
		{midst(), "a1d1", "a1. d1R", "", "", 13, 7, 9},
		{midst(), "d2e2", "d2. e2Q", "", "", 15, 7, 9},
		{midst(), "b2b4", "b2. b4P", "", "b3", 15, 0, 9},
		{black, "e8g8", "e8. g8k h8. f8r", "", "", 3, 7, 10},
		{black, "e8c8", "e8. c8k a8. d8r", "", "", 3, 7, 10},
		{black, "e8f8", "e8. f8k", "", "", 3, 7, 10},
		{black, "f6e4", "f6. e4n", "e4", "", 15, 0, 10},
		{black, "c5e3", "c5. e3b", "e3", "", 15, 0, 10},
		{black, "h8f8", "h8. f8r", "", "", 11, 7, 10},
		{black, "a8b8", "a8. b8r", "", "", 7, 7, 10},
		{black, "d7e7", "d7. e7q", "", "", 15, 7, 10},
		{black, "h7h5", "h7. h5p", "", "h6", 15, 0, 10},
		{blackLeapt(), "e5d6", "e5. d5. d6P", "d5", "", 0, 0, 13},
		{blackLeapt(), "c5d6", "c5. d5. d6P", "d5", "", 0, 0, 13},
		{blackLeapt(), "e1d1", "e1. d1K", "", "", 0, 1, 13},
		{whiteLeapt(), "d4e3", "d4. e4. e3p", "e4", "", 0, 0, 13},
		{whiteLeapt(), "f4e3", "f4. e4. e3p", "e4", "", 0, 0, 13},
		{whiteLeapt(), "d4d3", "d4. d3p", "", "", 0, 0, 13},
		{late(), "d7d8Q", "d7. d8Q", "", "", 0, 0, 60},
		{late(), "d7c8N", "d7. c8N", "c8", "", 0, 0, 60},
		{late(), "d1d6", "d1. d6R", "", "", 0, 41, 60},
		{blackMoves(late()), "e2f1r", "e2. f1r", "f1", "", 0, 0, 61},
		{blackMoves(late()), "h8g8", "h8. g8k", "", "", 0, 41, 61},
	} {
		leads(t, c.p, mv(c.move), behind(c.p, c.puts, c.over, c.castle, c.half, c.full))
		takes(t, c.p, mv(c.move), sq(c.takes))
	}
}

func TestExample(t *testing.T) { // P8.1
	p, errno := play.Move(board.Start(), mv("e2e4"))
	if errno != api.OK || p.Over != sq("e3") || p.Half != 0 || p.Full != 1 {
		t.Errorf("e2 to e4: %d, %v", errno, p)
	}
	p, errno = play.Move(p, mv("g8f6"))
	if errno != api.OK || p.Over != api.NoSquare || p.Half != 1 || p.Full != 2 {
		t.Errorf("g8 to f6: %d, %v", errno, p)
	}
}

// TestKinds moves each piece to all squares, to which it may go or not, with nothing and with anything there.
func TestKinds(t *testing.T) { // P8.1, P8.2
	things := append(rightPieces(), api.Piece{}, odd, blackNone, api.Piece{Kind: api.Rook, Side: 2})
	for _, x := range rightPieces() {
		for to := range 64 {
			end := 7 * (1 - int(x.Side))
			if to == sq("d4") || x.Kind == api.Pawn && to/8 == end {
				continue
			}
			for _, there := range things {
				p := bare()
				p.Side, p.Half, p.Full = x.Side, 5, 30
				p.Squares[sq("d4")], p.Squares[to] = x, there
				want := p
				want.Squares[sq("d4")], want.Squares[to] = api.Piece{}, x
				want.Side, want.Half, want.Full = 1-x.Side, 6, 30+int(x.Side)
				taken := api.NoSquare
				if there != (api.Piece{}) {
					taken = to
				}
				if x.Kind == api.Pawn || taken != api.NoSquare {
					want.Half = 0
				}
				m := api.Move{From: sq("d4"), To: to}
				leads(t, p, m, want)
				takes(t, p, m, taken)
			}
		}
	}
}

func TestLongSteps(t *testing.T) { // P8.1
	for file := range 8 {
		name := string(rune('a' + file))
		white, black := mv(name+"2"+name+"4"), mv(name+"7"+name+"5")
		for _, there := range "...PpQq?" {
			p := set(bare(), name+"2P "+name+"7p "+name+"3"+string(there)+" "+name+"6"+string(there))
			leads(t, p, white, behind(p, name+"2. "+name+"4P", name+"3", 0, 0, 1))
			leads(t, blackMoves(p), black, behind(blackMoves(p), name+"7. "+name+"5p", name+"6", 0, 0, 2))
			takes(t, p, white, api.NoSquare)
			takes(t, blackMoves(p), black, api.NoSquare)
		}
		// What stands where it leads to is taken, and it is a long step still.
		p := set(bare(), name+"2P "+name+"4n "+name+"7p "+name+"5n")
		leads(t, p, white, behind(p, name+"2. "+name+"4P", name+"3", 0, 0, 1))
		leads(t, blackMoves(p), black, behind(blackMoves(p), name+"7. "+name+"5p", name+"6", 0, 0, 2))
		takes(t, p, white, white.To)
		takes(t, blackMoves(p), black, black.To)
	}
}

// TestOverBehindAnyMove has Over behind all moves of each piece from all squares: just a pawn's long step leaves one.
func TestOverBehindAnyMove(t *testing.T) { // P8.1
	for _, x := range rightPieces() {
		begins, leads, end := 1, 3, 7
		if x.Side == api.Black {
			begins, leads, end = 6, 4, 0
		}
		for from := range 64 {
			for to := range 64 {
				m := api.Move{From: from, To: to}
				if from == to {
					continue
				}
				want := api.NoSquare
				if x.Kind == api.Pawn && to/8 == end {
					m.Becomes = api.Rook
				} else if x.Kind == api.Pawn && from%8 == to%8 && from/8 == begins && to/8 == leads {
					want = from%8 + 8*(begins+leads)/2
				}
				for _, over := range []int{api.NoSquare, sq("e3"), sq("d6"), to, 64, -9} {
					p := bare()
					p.Side, p.Over, p.Squares[from] = x.Side, over, x
					if q, errno := play.Move(p, m); errno != api.OK || q.Over != want {
						t.Fatalf("%v of %v leaves %d, want %d (%d)", m, x, q.Over, want, errno)
					}
				}
			}
		}
	}
	for _, text := range []string{"e2f4", "e2d4", "e2g4", "e3e5", "e2e5", "e4e2", "e2e3", "e1e3", "e5e7"} {
		p := set(bare(), text[:2]+"P")
		leads(t, p, mv(text), behind(p, text[:2]+". "+text[2:]+"P", "", 0, 0, 1))
	}
	for _, text := range []string{"e7f5", "e7d5", "e7c5", "e6e4", "e7e4", "e5e7", "e7e6", "e8e6", "e4e2"} {
		p := blackMoves(set(bare(), text[:2]+"p"))
		leads(t, p, mv(text), behind(p, text[:2]+". "+text[2:]+"p", "", 0, 0, 2))
	}
}

func TestTakesOver(t *testing.T) { // P8.1, P8.2
	for _, c := range []struct {
		what, ahead, over, move, puts, takes string
		side                                 api.Side
		half                                 int
	}{
		{"white's, back", "e5P d5p", "d6", "e5d6", "e5. d5. d6P", "d5", 0, 0},
		{"white's, on", "c5P d5p", "d6", "c5d6", "c5. d5. d6P", "d5", 0, 0},
		{"black's, back", "f4p e4P", "e3", "f4e3", "f4. e4. e3p", "e4", 1, 0},
		{"black's, on", "d4p e4P", "e3", "d4e3", "d4. e4. e3p", "e4", 1, 0},
		{"at the edge a", "b5P a5p", "a6", "b5a6", "b5. a5. a6P", "a5", 0, 0},
		{"at the edge h", "g4p h4P", "h3", "g4h3", "g4. h4. h3p", "h4", 1, 0},
		{"its own file", "d5P c5p e5p", "d6", "d5d6", "d5. d6P", "", 0, 0},
		{"its own file, with something there", "d5P c5p d6n", "d6", "d5d6", "d5. d6P", "d6", 0, 0},
		{"something on Over", "e5P d5p d6n", "d6", "e5d6", "e5. d6P", "d6", 0, 0},
		{"its own on Over", "e5P d5p d6N", "d6", "e5d6", "e5. d6P", "d6", 0, 0},
		{"no piece on Over", "e5P d5p d6?", "d6", "e5d6", "e5. d6P", "d6", 0, 0},
		{"a Side without a Kind on Over", "e5P d5p d6!", "d6", "e5d6", "e5. d6P", "d6", 0, 0},
		{"nothing beside", "e5P", "d6", "e5d6", "e5. d6P", "", 0, 0},
		{"nothing beside, black's", "f4p", "e3", "f4e3", "f4. e3p", "", 1, 0},
		{"a queen beside", "e5P d5q", "d6", "e5d6", "e5. d5. d6P", "d5", 0, 0},
		{"a king beside", "e5P d5k", "d6", "e5d6", "e5. d5. d6P", "d5", 0, 0},
		{"its own beside", "e5P d5R", "d6", "e5d6", "e5. d5. d6P", "d5", 0, 0},
		{"no piece beside", "e5P d5?", "d6", "e5d6", "e5. d5. d6P", "d5", 0, 0},
		{"a Side without a Kind beside", "e5P d5!", "d6", "e5d6", "e5. d5. d6P", "d5", 0, 0},
		{"another square than Over", "e5P d5p f5p", "d6", "e5f6", "e5. f6P", "", 0, 0},
		{"no Over", "e5P d5p", "", "e5d6", "e5. d6P", "", 0, 0},
		{"from two files on", "f5P d5p e5p", "d6", "f5d6", "f5. d5. d6P", "d5", 0, 0},
		{"from far off", "h2P d2q d5p", "d6", "h2d6", "h2. d2. d6P", "d2", 0, 0},
		{"along its rank", "e6P d5p", "d6", "e6d6", "e6. d6P", "", 0, 0},
		{"back down the board", "e7P d7q d5p", "d6", "e7d6", "e7. d7. d6P", "d7", 0, 0},
		{"Over of its own side", "d2P e2P", "e3", "d2e3", "d2. e2. e3P", "e2", 0, 0},
		{"a queen's move", "e5Q d5p", "d6", "e5d6", "e5. d6Q", "", 0, 6},
		{"a king's move", "e5K d5p", "d6", "e5d6", "e5. d6K", "", 0, 6},
		{"a bishop's move, black's", "f4b e4P", "e3", "f4e3", "f4. e3b", "", 1, 6},
	} {
		p := set(bare(), c.ahead)
		p.Side, p.Over, p.Half = c.side, sq(c.over), 5
		leads(t, p, mv(c.move), behind(p, c.puts, "", 0, c.half, 1+int(c.side)))
		takes(t, p, mv(c.move), sq(c.takes))
		if t.Failed() {
			t.Fatal(c.what)
		}
	}
	// Over is on the last rank: the pawn takes over, and becomes something.
	p := set(bare(), "e7P d7n")
	p.Over = sq("d8")
	leads(t, p, mv("e7d8Q"), behind(p, "e7. d7. d8Q", "", 0, 0, 1))
	takes(t, p, mv("e7d8Q"), sq("d7"))
	refused(t, p, mv("e7d8"), api.ErrMove)
}

// TestTakenOverOnCorner takes a rook by a pawn that takes over: no move went to its corner.
func TestTakenOverOnCorner(t *testing.T) { // P8.1
	p := set(bare(), "e1K a1R h1R b1P")
	p.Castle, p.Over = 3, sq("a3")
	leads(t, p, mv("b1a3"), behind(p, "b1. a1. a3P", "", 3, 0, 1))
	takes(t, p, mv("b1a3"), sq("a1"))
}

func TestBecomes(t *testing.T) { // P8.1
	for _, becomes := range []byte("NBRQ") {
		capital, small := string(becomes), strings.ToLower(string(becomes))
		for _, c := range []struct{ at, ahead, slant string }{{"a", "a", "b"}, {"d", "d", "c"}, {"d", "d", "e"}, {"h", "h", "g"}} {
			white := set(bare(), c.at+"7P "+c.slant+"8r")
			leads(t, white, mv(c.at+"7"+c.ahead+"8"+capital), behind(white, c.at+"7. "+c.ahead+"8"+capital, "", 0, 0, 1))
			leads(t, white, mv(c.at+"7"+c.slant+"8"+capital), behind(white, c.at+"7. "+c.slant+"8"+capital, "", 0, 0, 1))
			takes(t, white, mv(c.at+"7"+c.ahead+"8"+capital), api.NoSquare)
			takes(t, white, mv(c.at+"7"+c.slant+"8"+capital), sq(c.slant+"8"))
			black := blackMoves(set(bare(), c.at+"2p "+c.slant+"1R"))
			leads(t, black, mv(c.at+"2"+c.ahead+"1"+capital), behind(black, c.at+"2. "+c.ahead+"1"+small, "", 0, 0, 2))
			leads(t, black, mv(c.at+"2"+c.slant+"1"+capital), behind(black, c.at+"2. "+c.slant+"1"+small, "", 0, 0, 2))
		}
		// To alone says that it becomes something, wherever it comes from.
		for _, from := range []string{"a2", "h4", "d1", "f8"} {
			p := set(bare(), from+"P")
			leads(t, p, mv(from+"c8"+capital), behind(p, from+". c8"+capital, "", 0, 0, 1))
			p = blackMoves(set(bare(), from+"p"))
			leads(t, p, mv(from+"c1"+capital), behind(p, from+". c1"+small, "", 0, 0, 2))
		}
	}
}

func TestBecomesWrong(t *testing.T) { // P8.1, P8.2
	white, black := set(bare(), "d7P e6P a7Q"), blackMoves(set(bare(), "d2p e3p a2q"))
	no := append(wrongKinds(), api.Pawn, api.King)
	for _, k := range append(no, api.NoKind) {
		for _, text := range []string{"d7d8", "d7c8", "d7e8", "e6e8"} {
			m := mv(text)
			m.Becomes = k
			refused(t, white, m, api.ErrMove)
			m.From, m.To = m.From^56, m.To^56
			refused(t, black, m, api.ErrMove)
		}
	}
	for _, k := range append(no, api.Knight, api.Bishop, api.Rook, api.Queen) {
		for _, text := range []string{"d7d6", "d7e7", "e6e7", "e6d7", "d7d1", "a7a8", "a7b7", "a7a1"} {
			m := mv(text)
			m.Becomes = k
			refused(t, white, m, api.ErrMove)
			m.From, m.To = m.From^56, m.To^56
			refused(t, black, m, api.ErrMove)
		}
	}
	// On the other side's last rank a pawn stays one.
	leads(t, white, mv("d7d1"), behind(white, "d7. d1P", "", 0, 0, 1))
	leads(t, black, mv("d2d8"), behind(black, "d2. d8p", "", 0, 0, 2))
	leads(t, white, mv("a7a8"), behind(white, "a7. a8Q", "", 0, 1, 1))
	leads(t, black, mv("a2a1"), behind(black, "a2. a1q", "", 0, 1, 2))
}

func TestCastlings(t *testing.T) { // P8.1, P8.2
	for _, c := range []struct {
		move         string
		has, left    api.Castle // the castling's own, and those that a king's move from there leaves
		side         api.Side
		king, rook   string
		corner, goes string
	}{
		{"e1g1", 1, 12, 0, "K", "R", "h1", "f1"},
		{"e1c1", 2, 12, 0, "K", "R", "a1", "d1"},
		{"e8g8", 4, 3, 1, "k", "r", "h8", "f8"},
		{"e8c8", 8, 3, 1, "k", "r", "a8", "d8"},
	} {
		from, to := c.move[:2], c.move[2:]
		moved := from + ". " + to + c.king
		for castle := api.Castle(0); castle <= 15; castle++ {
			for _, there := range []string{c.rook, ".", "R", "r", "Q", "n", "K", "?", "!"} {
				p := set(bare(), from+c.king+" "+c.corner+there)
				p.Side, p.Castle, p.Half, p.Full = c.side, castle, 3, 20
				puts := moved
				if castle&c.has != 0 {
					puts += " " + c.corner + ". " + c.goes + c.rook
				}
				leads(t, p, mv(c.move), behind(p, puts, "", castle&c.left, 4, 20+int(c.side)))
				takes(t, p, mv(c.move), api.NoSquare)
				// What stands between goes, what stands on To is taken.
				q := set(p, c.goes+"b "+to+"B")
				leads(t, q, mv(c.move), behind(q, puts, "", castle&c.left, 0, 20+int(c.side)))
				takes(t, q, mv(c.move), sq(to))
				q = set(p, c.goes+"b")
				leads(t, q, mv(c.move), behind(q, puts, "", castle&c.left, 4, 20+int(c.side)))
				takes(t, q, mv(c.move), api.NoSquare)
			}
		}
		for _, castle := range wrongCastles() {
			p := set(bare(), from+c.king+" "+c.corner+c.rook)
			p.Side, p.Castle = c.side, castle
			leads(t, p, mv(c.move), behind(p, moved, "", 0, 1, 1+int(c.side)))
		}
	}
}

// TestNoCastlings has moves that look like castlings, and are none.
func TestNoCastlings(t *testing.T) { // P8.1
	for _, c := range []struct {
		what, king, move string
		side             api.Side
		left             api.Castle
	}{
		{"from another file", "d1K", "d1f1", 0, 15},
		{"from another file, back", "f1K", "f1d1", 0, 15},
		{"from the next rank", "e2K", "e2g2", 0, 15},
		{"from the middle", "e4K", "e4c4", 0, 15},
		{"white's on black's square", "e8K", "e8g8", 0, 3},
		{"white's on black's square, back", "e8K", "e8c8", 0, 3},
		{"black's on white's square", "e1k", "e1g1", 1, 12},
		{"black's on white's square, back", "e1k", "e1c1", 1, 12},
		{"black's from another file", "d8k", "d8f8", 1, 15},
		{"black's from the next rank", "e7k", "e7g7", 1, 15},
		{"to where a castling leads", "f1K", "f1g1", 0, 15},
		{"to where a castling leads, back", "d1K", "d1c1", 0, 15},
		{"to where a castling leads, from far off", "e8K", "e8g1", 0, 3},
		{"to where a castling leads, down", "c2K", "c2c1", 0, 15},
		{"to where black's castling leads", "f8k", "f8g8", 1, 15},
		{"to where black's castling leads, back", "a8k", "a8c8", 1, 7},
		{"one file on", "e1K", "e1f1", 0, 12},
		{"one file back", "e1K", "e1d1", 0, 12},
		{"three files on", "e1K", "e1h1", 0, 12},
		{"three files back", "e1K", "e1b1", 0, 12},
		{"two files on and a rank", "e1K", "e1g2", 0, 12},
		{"two files back and six ranks", "e1K", "e1c7", 0, 12},
		{"two ranks", "e1K", "e1e3", 0, 12},
		{"one file on, black's", "e8k", "e8f8", 1, 3},
		{"two files on and a rank down", "e8k", "e8g7", 1, 3},
		{"to the other side's square", "e1K", "e1g8", 0, 12},
		{"a queen", "e1Q", "e1g1", 0, 12},
		{"a rook, back", "e1R", "e1c1", 0, 12},
		{"a knight", "e8n", "e8g8", 1, 3},
	} {
		for _, castle := range []api.Castle{0, 1, 2, 4, 8, 5, 10, 15} {
			p := set(bare(), c.king)
			p.Side, p.Castle = c.side, castle
			left := castle & c.left
			if strings.HasSuffix(c.move, "h1") {
				left &^= 1
			}
			leads(t, p, mv(c.move), behind(p, c.move[:2]+". "+c.move[2:]+c.king[2:], "", left, 1, 1+int(c.side)))
			if t.Failed() {
				t.Fatal(c.what, castle)
			}
		}
	}
}

func TestCastlesLost(t *testing.T) { // P8.1
	lost := map[string]api.Castle{"e1": 3, "h1": 1, "a1": 2, "e8": 12, "h8": 4, "a8": 8}
	for castle := api.Castle(0); castle <= 15; castle++ {
		for from := range 64 {
			for to := range 64 {
				want := castle
				for name, c := range lost {
					if from == sq(name) || to == sq(name) {
						want &^= c
					}
				}
				for _, x := range []api.Piece{piece('Q'), piece('k'), piece('R'), piece('n')} {
					p := bare()
					p.Side, p.Castle, p.Squares[from] = x.Side, castle, x
					if q, errno := play.Move(p, api.Move{From: from, To: to}); from != to && (errno != api.OK || q.Castle != want) {
						t.Fatalf("%d: a move of %v from %d to %d leaves %d, want %d", castle, x, from, to, q.Castle, want)
					}
				}
			}
		}
	}
	// Whatever is taken on a corner, or goes from it.
	for _, there := range []byte("PNBRQKpnbrqk?!") {
		for name, c := range lost {
			p := set(midst(), "d4Q "+name+string(there))
			want := behind(p, "d4. "+name+"Q", "", 15&^c, 0, 9)
			leads(t, p, api.Move{From: sq("d4"), To: sq(name)}, want)
		}
	}
}

func TestWrongCastles(t *testing.T) { // P8.1
	for _, castle := range wrongCastles() {
		for _, text := range []string{"e2e4", "g1f3", "e1g1", "e1c1", "a1a2", "h1h8"} {
			p := midst()
			p.Squares[sq("e2")], p.Squares[sq("g1")] = piece('P'), piece('N')
			p.Castle = castle
			q, errno := play.Move(p, mv(text))
			if errno != api.OK || q.Castle != 0 || q.Squares[sq("f1")] != (api.Piece{}) || q.Squares[sq("d1")] != (api.Piece{}) {
				t.Errorf("Castle %d, %s: %d, %v", castle, text, errno, q)
			}
		}
		p := begin()
		p.Castle = castle
		if q, errno := play.Moves(p); errno != api.OK || q != p {
			t.Errorf("Castle %d, no moves: %d, %v", castle, errno, q)
		}
	}
}

func TestHalf(t *testing.T) { // P8.1
	for _, c := range []struct{ ahead, quiet int }{
		{0, 1}, {1, 2}, {99, 100}, {1022, 1023}, {1023, 1024}, {1024, 1024}, {1025, 1024}, {1 << 32, 1024}, {math.MaxInt - 1, 1024}, {math.MaxInt, 1024}, {-1, 0}, {-5, -4}, {math.MinInt, math.MinInt + 1},
	} {
		p := set(midst(), "h8q")
		p.Castle, p.Half = 0, c.ahead
		leads(t, p, mv("c3d5"), behind(p, "c3. d5N", "", 0, c.quiet, 9))
		leads(t, p, mv("e1e2"), behind(p, "e1. e2K", "", 0, c.quiet, 9))
		leads(t, p, mv("a2a3"), behind(p, "a2. a3P", "", 0, 0, 9))
		leads(t, p, mv("a2a4"), behind(p, "a2. a4P", "a3", 0, 0, 9))
		leads(t, p, mv("h1h8"), behind(p, "h1. h8R", "", 0, 0, 9))
		leads(t, p, mv("d3e5"), behind(p, "d3. e5P", "", 0, 0, 9))
		leads(t, set(p, "d3. d7P"), mv("d7d8Q"), behind(p, "d3. d7. d8Q", "", 0, 0, 9))
		b := blackMoves(p)
		leads(t, b, mv("f6g4"), behind(b, "f6. g4n", "", 0, c.quiet, 10))
		leads(t, b, mv("h8h1"), behind(b, "h8. h1q", "", 0, 0, 10))
		p.Castle = 15
		leads(t, p, mv("e1c1"), behind(p, "e1. c1K a1. d1R", "", 12, c.quiet, 9))
	}
}

func TestFull(t *testing.T) { // P8.1
	for _, c := range []struct{ ahead, black int }{
		{1, 2}, {2, 3}, {16382, 16383}, {16383, 16384}, {16384, 16384}, {16385, 16384}, {1 << 32, 16384}, {math.MaxInt, 16384}, {0, 1}, {-1, 0}, {-7, -6}, {math.MinInt, math.MinInt + 1},
	} {
		p := midst()
		p.Full = c.ahead
		leads(t, p, mv("c3d5"), behind(p, "c3. d5N", "", 15, 7, c.ahead))
		leads(t, p, mv("a2a4"), behind(p, "a2. a4P", "a3", 15, 0, c.ahead))
		leads(t, p, mv("c4e6"), behind(p, "c4. e6B", "", 15, 0, c.ahead))
		b := blackMoves(p)
		leads(t, b, mv("f6g4"), behind(b, "f6. g4n", "", 15, 7, c.black))
		leads(t, b, mv("a7a5"), behind(b, "a7. a5p", "a6", 15, 0, c.black))
		leads(t, b, mv("e8g8"), behind(b, "e8. g8k h8. f8r", "", 3, 7, c.black))
		leads(t, b, mv("e6c4"), behind(b, "e6. c4b", "", 15, 0, c.black))
	}
}

func TestRows(t *testing.T) { // P8.1
	for _, p := range append(rightOnes(), bare(), api.Position{}, api.Position{Side: 5, Castle: 99, Over: -7, Half: -1, Full: math.MaxInt}) {
		if q, errno := play.Moves(p); errno != api.OK || q != p {
			t.Errorf("no moves: %d, %v", errno, q)
		}
		if q, errno := play.Moves(p, []api.Move{}...); errno != api.OK || q != p {
			t.Errorf("an empty row: %d, %v", errno, q)
		}
	}
	l := row("e2e4 e7e5 g1f3 b8c6 f1b5 g8f6 e1g1 f6e4 d2d4 e4d6 b5c6 d7c6 d4e5 d6f5 d1d8 e8d8")
	want := drawn("r.bk.b.r", "ppp..ppp", "..p.....", "....Pn..", "........", ".....N..", "PPP..PPP", "RNB..RK.")
	want.Full = 9
	got, errno := play.Moves(begin(), l...)
	if errno != api.OK || got != want {
		t.Errorf("the Berlin: %d, %v", errno, got)
	}
	p := begin()
	for i, m := range l {
		p, errno = play.Move(p, m)
		if q, no := play.Moves(begin(), l[:i+1]...); errno != api.OK || no != api.OK || q != p {
			t.Errorf("the first %d: %d, %d, %v, want %v", i+1, errno, no, q, p)
		}
	}
	long := slices.Repeat(row("g1f3 g8f6 f3g1 f6g8"), 300)
	want = begin()
	want.Half, want.Full = 1024, 601
	if got, errno := play.Moves(begin(), long...); errno != api.OK || got != want {
		t.Errorf("twelve hundred moves: %d, %v", errno, got)
	}
}

func TestRowsTakeOver(t *testing.T) { // P8.1
	// What a pawn went over lasts for one move.
	p, errno := play.Moves(begin(), row("e2e4 a7a6 e4e5 d7d5")...)
	if errno != api.OK || p.Over != sq("d6") {
		t.Fatal(errno, p)
	}
	q, errno := play.Moves(p, row("e5d6")...)
	if errno != api.OK || q.Squares[sq("d5")] != (api.Piece{}) || q.Squares[sq("d6")] != piece('P') {
		t.Error(errno, q)
	}
	q, errno = play.Moves(p, row("h2h3 h7h6 e5d6")...)
	if errno != api.OK || q.Squares[sq("d5")] != piece('p') || q.Squares[sq("d6")] != piece('P') {
		t.Error(errno, q)
	}
	// Castlings that are lost stay so when the king is back.
	p, errno = play.Moves(midst(), row("e1e2 e8e7 e2e1 e7e8 e1g1 e8c8")...)
	if errno != api.OK || p.Castle != 0 || p.Squares[sq("h1")] != piece('R') || p.Squares[sq("a8")] != piece('r') || p.Squares[sq("f1")] != (api.Piece{}) {
		t.Error(errno, p)
	}
}

func TestRowsWrong(t *testing.T) { // P8.1
	far, none := api.Move{From: 12, To: 64}, api.Move{From: 28, To: 36}
	for _, c := range []struct {
		l    []api.Move
		want api.Errno
	}{
		{[]api.Move{far}, api.ErrRange},
		{[]api.Move{none}, api.ErrMove},
		{[]api.Move{far, none}, api.ErrRange},
		{[]api.Move{none, far}, api.ErrMove},
		{[]api.Move{mv("e2e4"), far}, api.ErrRange},
		{[]api.Move{mv("e2e4"), none}, api.ErrMove},
		{[]api.Move{mv("e2e4"), none, far}, api.ErrMove},
		{[]api.Move{mv("e2e4"), far, none}, api.ErrRange},
		{[]api.Move{mv("e2e4"), mv("e2e4")}, api.ErrMove},
		{[]api.Move{mv("e2e4"), mv("d2d4")}, api.ErrMove},
		{[]api.Move{mv("e7e5"), mv("e2e4")}, api.ErrMove},
		{[]api.Move{far, mv("e2e4"), mv("e7e5")}, api.ErrRange},
		{[]api.Move{none, mv("e2e4"), mv("e7e5")}, api.ErrMove},
		{[]api.Move{mv("e2e4"), far, mv("e7e5"), mv("g1f3")}, api.ErrRange},
		{[]api.Move{mv("e2e4"), none, mv("e7e5"), mv("g1f3")}, api.ErrMove},
		{append(row("e2e4 e7e5 g1f3 b8c6 f1b5"), api.Move{From: -1, To: 3, Becomes: 9}, mv("a7a6")), api.ErrRange},
	} {
		if got, errno := play.Moves(begin(), c.l...); errno != c.want || got != (api.Position{}) {
			t.Errorf("%v: %d, want %d; %v", c.l, errno, c.want, got)
		}
	}
}

func TestWrongSquares(t *testing.T) { // P8.1, P8.2
	positions := append(rightOnes(), blackMoves(begin()), bare(), api.Position{}, api.Position{Side: 2})
	for _, p := range positions {
		for _, none := range noSquares() {
			for _, becomes := range []api.Kind{api.NoKind, api.Queen, api.King, -1} {
				for _, s := range []int{0, 12, 28, 52, 63, none} {
					refused(t, p, api.Move{From: none, To: s, Becomes: becomes}, api.ErrRange)
					refused(t, p, api.Move{From: s, To: none, Becomes: becomes}, api.ErrRange)
				}
				refused(t, p, api.Move{From: none, To: -none, Becomes: becomes}, api.ErrRange)
			}
		}
		for s := range 64 {
			for _, becomes := range []api.Kind{api.NoKind, api.Queen, api.King, 7} {
				refused(t, p, api.Move{From: s, To: s, Becomes: becomes}, api.ErrRange)
			}
		}
	}
}

func TestWrongMovers(t *testing.T) { // P8.1, P8.2
	for from := range 64 {
		for to := range 64 {
			if m := (api.Move{From: from, To: to}); from != to {
				if begin().Squares[from].Kind == 0 || from >= 32 {
					refused(t, begin(), m, api.ErrMove)
				}
				if begin().Squares[from].Kind == 0 || from < 32 {
					refused(t, blackMoves(begin()), m, api.ErrMove)
				}
				refused(t, bare(), m, api.ErrMove)
			}
		}
	}
	for _, x := range append(wrongPieces(), api.Piece{}) {
		for _, side := range append(wrongSides(), api.White, api.Black, x.Side) {
			p := midst()
			p.Side = side
			p.Squares[sq("e2")], p.Squares[sq("b7")], p.Squares[sq("g2")], p.Squares[sq("e1")] = x, x, x, x
			for _, text := range []string{"e2e4", "b7b8", "b7b8Q", "g2g1R", "b7b5", "e1g1", "e1c1", "e2e3"} {
				refused(t, p, mv(text), api.ErrMove)
			}
		}
	}
}

func TestWrongSides(t *testing.T) { // P8.1, P8.2
	for _, side := range wrongSides() {
		for _, p := range rightOnes() {
			p.Side = side
			own := p
			for s, x := range own.Squares {
				if x.Kind != 0 {
					own.Squares[s].Side = side
				}
			}
			for from := range 64 {
				refused(t, p, api.Move{From: from, To: from ^ 16}, api.ErrMove)
				refused(t, own, api.Move{From: from, To: from ^ 16}, api.ErrMove)
				refused(t, p, api.Move{From: from, To: from, Becomes: api.Queen}, api.ErrRange)
			}
			refused(t, p, mv("d7d8Q"), api.ErrMove)
			refused(t, own, mv("d7d8Q"), api.ErrMove)
			refused(t, own, mv("e2e1R"), api.ErrMove)
		}
	}
}

func TestRangeAheadOfMove(t *testing.T) { // P8.1, R2
	refused(t, begin(), api.Move{From: 28, To: 28}, api.ErrRange)
	refused(t, begin(), api.Move{From: 28, To: 64}, api.ErrRange)
	refused(t, begin(), api.Move{From: 52, To: -1}, api.ErrRange)
	refused(t, begin(), api.Move{From: 64, To: 28, Becomes: api.King}, api.ErrRange)
	refused(t, begin(), api.Move{From: 12, To: 12, Becomes: api.Queen}, api.ErrRange)
	refused(t, api.Position{Side: 9}, api.Move{From: -1, To: -1, Becomes: -1}, api.ErrRange)
	refused(t, api.Position{Side: 9}, api.Move{From: 0, To: 1, Becomes: -1}, api.ErrMove)
}

func TestTakesNothing(t *testing.T) { // P8.2
	takes(t, begin(), mv("e2e4"), api.NoSquare)
	takes(t, begin(), mv("e2d3"), api.NoSquare)
	takes(t, begin(), mv("e2e7"), sq("e7"))
	takes(t, begin(), mv("d1d2"), sq("d2"))
	takes(t, begin(), mv("e7e2"), api.NoSquare)
	takes(t, begin(), mv("e4e7"), api.NoSquare)
	takes(t, begin(), mv("e2e7Q"), api.NoSquare)
	takes(t, begin(), mv("e2e8"), api.NoSquare)
	takes(t, begin(), mv("e2e8K"), api.NoSquare)
	takes(t, begin(), mv("e2e8Q"), sq("e8"))
	takes(t, begin(), mv("e2a1"), sq("a1"))
	takes(t, blackLeapt(), mv("e5d6Q"), api.NoSquare)
	takes(t, blackMoves(blackLeapt()), mv("e5d6"), api.NoSquare)
	takes(t, midst(), mv("e1g1"), api.NoSquare)
	takes(t, midst(), mv("e1h1"), sq("h1"))
}
