package legal_test

import (
	"strings"
	"testing"

	"zugzwang/api"
	"zugzwang/board"
	"zugzwang/legal"
	"zugzwang/sample"
)

// castled is a castling of white: its number in Castle, the rook's letter and square, and where the king goes.
type castled struct {
	what     string
	has      api.Castle
	rook, to string
}

func castlings() []castled {
	return []castled{
		{"short", 1, "h1R", "g1"},
		{"long", 2, "a1R", "c1"},
	}
}

// ready has a king and a rook that may castle, and other things.
func (c castled) ready(puts string) api.Position {
	return castle(drawn("e1K "+c.rook+" "+puts), c.has)
}

// asks asks whether a castling is legal in a position, and in that turned.
func (c castled) asks(t *testing.T, what string, p api.Position, want bool) {
	t.Helper()
	m := sample.Move("e1" + c.to)
	for _, p := range []api.Position{p, board.Turn(p)} {
		if !legal.Position(p) {
			t.Fatalf("%s: %v may not be played on", what, p)
		}
		in := false
		for _, one := range legal.Moves(p) {
			in = in || one == m
		}
		if legal.Is(p, m) != want || in != want {
			t.Errorf("%s, %s, with %v: %v, among the moves: %v", c.what, what, p, legal.Is(p, m), in)
		}
		_, errno := legal.Play(p, m)
		if want != (errno == api.OK) || !want && errno != api.ErrMove {
			t.Errorf("%s, %s, with %v: played: %d", c.what, what, p, errno)
		}
		m = sample.Turned(m)
	}
}

// among says whether a castling is one of those named.
func (c castled) among(names string) bool {
	for _, name := range strings.Fields(names) {
		if name == c.what {
			return true
		}
	}
	return false
}

// TestCastleAttacked has the castlings that are legal beside each thing that attacks something.
func TestCastleAttacked(t *testing.T) { // P10.1
	for _, c := range []struct{ what, puts, legal string }{
		{"nothing attacked", "e8k", "short long"},
		{"the long one's rook attacked", "e8k a5r", "short long"},
		{"the square beside it attacked", "e8k b5r", "short long"},
		{"where the long one's king goes to attacked", "e8k c5r", "short"},
		{"the square that the long one's king goes over attacked", "e8k d5r", "short"},
		{"in check", "d8k e5r", ""},
		{"the square that the short one's king goes over attacked", "e8k f5r", "long"},
		{"where the short one's king goes to attacked", "e8k g5r", "long"},
		{"the short one's rook attacked", "e8k h5r", "short long"},
		{"both rooks attacked, and the square beside one", "e8k a5r b5r h5r", "short long"},
		{"all but these attacked", "e8k c5r d5r f5r g5r", ""},
		{"attacked, but something stands between", "e8k c5r c3N d5r d2P f5r f3p g5r g4n", "short long"},
		{"by a queen, the square beside the rook", "e8k b8q", "short long"},
		{"by a queen and a bishop, each one's", "e8k f8q a3b", ""},
		{"by a bishop, in check", "e8k b4b", ""},
		{"by a bishop, over", "e8k a6b", "long"},
		{"by a bishop, to", "e8k c5b", "long"},
		{"by a bishop, the rook", "e8k b7b", "short long"},
		{"by a bishop, the long one over", "e8k h5b", "short"},
		{"by a bishop, the long one to", "e8k h6b", "short"},
		{"by a bishop, the square beside the rook", "e8k h7b", "short long"},
		{"by a knight, in check", "e8k f3n", ""},
		{"by a knight, of the square beside the rook", "e8k a3n", "short long"},
		{"by a knight, of the rook and the king's goal", "e8k b3n", "short"},
		{"by a knight, over the one, and the other", "e8k e3n", ""},
		{"by a knight, of the short one's rook and way", "e8k g3n", "long"},
		{"by a knight, of the short one's goal", "e8k h3n", "long"},
		{"by a pawn, beside the long one's rook", "e8k a2p", "short long"},
		{"by a pawn, of the rook and the goal", "e8k b2p", "short"},
		{"by a pawn, beside the rook and over", "e8k c2p", "short"},
		{"by a pawn, in check", "e8k d2p", ""},
		{"by a pawn, over both", "e8k e2p", ""},
		{"by a pawn, in check from the other side", "e8k f2p", ""},
		{"by a pawn, over and the rook", "e8k g2p", "long"},
		{"by a pawn, to", "e8k h2p", "long"},
		{"by the other king, to and beside the rook", "b2k", "short"},
		{"by the other king, beside the rook", "a3k", "short long"},
		{"by the other king, over the one", "c2k", "short"},
		{"by the other king, over the other", "g2k", "long"},
		{"by the other king, to", "h2k", "long"},
		{"by its own pieces", "e8k c5R d3Q f3R g5R a6B a5Q", "short long"},
	} {
		for _, k := range castlings() {
			if c.puts == "a3k" && k.what == "long" || c.puts == "h2k" && k.what == "short" {
				continue // the rook would attack the other king
			}
			k.asks(t, c.what, k.ready(c.puts), k.among(c.legal))
		}
	}
}

// TestCastleRooks has, on each square of ranks 3 to 7, a rook of the other side, which looks down its file.
func TestCastleRooks(t *testing.T) { // P10.1
	for s := 16; s < 64; s++ {
		p := castle(sample.Set(sample.Bare(), "e1K a1R h1R"), 3)
		p.Squares[s] = sample.Piece('r')
		for at := 63; at >= 16; at-- { // a king somewhere, that is in the way of nothing
			if at%8 != s%8 && at%8 != 0 && at%8 != 7 && at%8 != 4 {
				p.Squares[at] = sample.Piece('k')
				break
			}
		}
		file := s % 8
		for _, c := range castlings() {
			want := file != 4 && (c.what == "short" && file != 5 && file != 6 || c.what == "long" && file != 2 && file != 3)
			c.asks(t, "a rook on "+string(rune('0'+s/8)), p, want)
		}
	}
}

// TestCastleAll has both castlings of both sides, and what is left of them.
func TestCastleAll(t *testing.T) { // P10.1
	p := sample.Board("r...k..r", "........", "........", "........", "........", "........", "........", "R...K..R")
	for has := range api.Castle(16) {
		white, black := "d1 f1 d2 e2 f2", "d8 f8 d7 e7 f7"
		for _, c := range []struct {
			has  api.Castle
			to   string
			mine *string
		}{{1, " g1", &white}, {2, " c1", &white}, {4, " g8", &black}, {8, " c8", &black}} {
			if has&c.has != 0 {
				*c.mine += c.to
			}
		}
		goes(t, "white's castlings", castle(p, has), "e1", white)
		goes(t, "black's castlings", sample.Black(castle(p, has)), "e8", black)
	}
}

// TestCastleBlocked has things between the king and the rook.
func TestCastleBlocked(t *testing.T) { // P10.1
	for _, c := range castlings() {
		between := map[string]string{"short": "f1 g1", "long": "b1 c1 d1"}[c.what]
		for _, name := range strings.Fields(between) {
			for _, letter := range []string{"N", "B", "n", "b"} {
				c.asks(t, "blocked", c.ready("e8k "+name+letter), false)
			}
		}
	}
}

// TestCastleOtherKing has the other king on squares where a castling gives check, and where not, and checks along the rank.
func TestCastleOtherKing(t *testing.T) { // P10.1
	for _, c := range castlings() {
		for _, puts := range []string{"e8k", "f8k", "d8k", "b8k h8q", "g7k", "b3k"} {
			c.asks(t, "with a king", c.ready(puts), true)
		}
	}
	// The king is in check along the rank, from the other corner.
	goes(t, "in check along the rank", castle(drawn("e1K h1R a1r e8k"), 1), "e1", "d2 e2 f2")
	goes(t, "in check along the rank, long", castle(drawn("e1K a1R h1r e8k"), 2), "e1", "d2 e2 f2")
	// The other side's castlings are no matter.
	goes(t, "the other side's", castle(drawn("e1K a8r e8k h8r"), 12), "e1", "d1 f1 d2 e2 f2")
}

// TestCastled has how it stands behind each castling, and that it may not be made again.
func TestCastled(t *testing.T) { // P10.2
	for _, c := range []struct{ row, back, puts string }{
		{"e1g1", "g1f1 g1h1 g1e1", "e1. h1. g1K f1R"},
		{"e1c1", "c1b1 c1b2 c1e1", "e1. a1. c1K d1R"},
	} {
		p := sample.Midst()
		want := sample.Set(p, c.puts)
		want.Side, want.Castle, want.Half = api.Black, 12, 7
		if got, errno := legal.Play(p, sample.Move(c.row)); got != want || errno != api.OK {
			t.Errorf("%s: %d, %v, want %v", c.row, errno, got, want)
		}
		for _, m := range sample.Moves(c.back) {
			if _, errno := legal.Play(p, sample.Move(c.row), m); errno != api.ErrMove {
				t.Errorf("%v behind %s: %d", m, c.row, errno)
			}
		}
		black := sample.Turned(sample.Move(c.row))
		both, errno := legal.Play(p, sample.Move(c.row), black)
		if errno != api.OK || both.Castle != 0 || both.Full != 10 || both.Half != 8 {
			t.Errorf("both castle: %d, %v", errno, both)
		}
		// A king, or a rook, that went and came back castles no more.
		for _, row := range []string{"e1e2 a7a6 e2e1 a6a5", "a1b1 a7a6 b1a1 a6a5 h1g1 h7h6 g1h1 h6h5"} {
			if _, errno := legal.Play(p, append(sample.Moves(row), sample.Move(c.row))...); errno != api.ErrMove {
				t.Errorf("%s behind %s: %d", c.row, row, errno)
			}
		}
		for _, row := range []string{"e1e2 a7a6 e2e1 a6a5", "a1b1 a7a6 b1a1 a6a5 h1g1 h7h6 g1h1 h6h5", "h2h3 a7a6"} {
			if _, errno := legal.Play(p, sample.Moves(row)...); errno != api.OK {
				t.Errorf("%s: %d", row, errno)
			}
		}
	}
}
