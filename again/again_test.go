package again_test

import (
	"testing"

	"zugzwang/again"
	"zugzwang/api"
	"zugzwang/board"
	"zugzwang/legal"
	"zugzwang/sample"
)

// alike asks whether two positions are the same, from either side, by their texts, and turned.
func alike(t *testing.T, what string, a, b api.Position, want bool) {
	t.Helper()
	if again.Same(a, b) != want || again.Same(b, a) != want {
		t.Errorf("%s: Same %v, and %v, want %v, of %v and %v", what, again.Same(a, b), again.Same(b, a), want, a, b)
	}
	if (again.Key(a) == again.Key(b)) != want {
		t.Errorf("%s: one Key: %v, want %v, of %v and %v", what, !want, want, a, b)
	}
	a, b = board.Turn(a), board.Turn(b)
	if again.Same(a, b) != want || (again.Key(a) == again.Key(b)) != want {
		t.Errorf("%s, turned: Same %v, one Key: %v, want %v, of %v and %v", what, again.Same(a, b), again.Key(a) == again.Key(b), want, a, b)
	}
}

// without is a position in which no pawn went two ranks.
func without(p api.Position) api.Position {
	p.Over = api.NoSquare
	return p
}

// takes asks whether a pawn may take over, in a position and in that turned, and that the position is the same as one without Over just if none may.
func takes(t *testing.T, what string, p api.Position, may bool) {
	t.Helper()
	for _, p := range []api.Position{p, board.Turn(p)} {
		if p.Over == api.NoSquare || !legal.Position(p) {
			t.Fatalf("%s: over %d, %v may not be played on", what, p.Over, p)
		}
		want := api.NoSquare
		if may {
			want = p.Over
		}
		if got := again.Over(p); got != want {
			t.Errorf("%s: over %d, want %d, of %v", what, got, want, p)
		}
		if got := again.Over(without(p)); got != api.NoSquare {
			t.Errorf("%s, without Over: over %d", what, got)
		}
		alike(t, what+", with and without Over", p, without(p), !may)
		alike(t, what+", itself", p, p, true)
	}
}

// drawn is a position of white's move in which a pawn of black's went over a square.
func drawn(puts, over string) api.Position {
	return sample.Over(sample.Drawn(puts), over)
}

func TestMayBeTakenOver(t *testing.T) { // P12.1
	for _, c := range []struct{ what, puts, over string }{
		{"from the left", "e1K e8k d5p c5P", "d6"},
		{"from the right", "e1K e8k d5p e5P", "d6"},
		{"from both", "e1K e8k d5p c5P e5P", "d6"},
		{"on file a", "e1K e8k a5p b5P", "a6"},
		{"on file h", "e1K e8k h5p g5P", "h6"},
		{"from file a", "e1K e8k b5p a5P", "b6"},
		{"from file h", "e1K e8k g5p h5P", "g6"},
		{"by one beside which the other is pinned on its file", "e1K h8k d5p c5P e5P e8r", "d6"},
		{"by one beside which the other is pinned on its diagonal", "h2K h8k d5p c5P e5P b8b", "d6"},
		{"by either, as the other stays on the rank", "a5K h8k d5p c5P e5P h5r", "d6"},
		{"on the king's rank, but something else stands there", "a5K h8k d5p e5P b5N h5r", "d6"},
		{"on the king's rank, but what looks along it is a bishop", "a5K h8k d5p e5P h5b", "d6"},
		{"along the diagonal of what pins it", "h2K h8k d5p e5P c7b", "d6"},
		{"onto the file on which the taken pawn stood ahead of the king", "d1K h8k d5p e5P d8r", "d6"},
		{"in check by just that pawn", "e4K h8k d5p e5P", "d6"},
		{"in check by just that pawn, from the other side", "c4K h8k d5p e5P", "d6"},
		{"between the king and what has it in check", "a3K h8k d5p e5P f8b", "d6"},
		{"with a piece of its own that goes there, too", "e1K e8k d5p e5P f5N", "d6"},
	} {
		takes(t, c.what, drawn(c.puts, c.over), true)
	}
}

func TestMayNotBeTakenOver(t *testing.T) { // P12.1
	for _, c := range []struct{ what, puts, over string }{
		{"nothing beside it", "e1K e8k d5p", "d6"},
		{"a pawn of its own side beside it", "e1K e8k d5p e5p c5p", "d6"},
		{"a knight beside it", "e1K e8k d5p e5N", "d6"},
		{"a bishop beside it, which goes there", "e1K e8k d5p e5B", "d6"},
		{"a rook beside it", "e1K e8k d5p c5R", "d6"},
		{"a queen beside it, which goes there", "e1K g8k d5p e5Q", "d6"},
		{"the king beside it, who goes there", "e5K h8k d5p", "d6"},
		{"a knight that goes there", "e1K e8k d5p c4N", "d6"},
		{"a rook that goes there", "e1K e8k d5p h6R", "d6"},
		{"pawns on the rank behind", "e1K e8k d5p c4P d4P e4P", "d6"},
		{"pawns on the rank ahead", "e1K h8k d5p c6P e6P", "d6"},
		{"pawns two ranks ahead", "e1K h8k d5p c7P e7P", "d6"},
		{"pawns two files off", "e1K e8k d5p b5P f5P", "d6"},
		{"pawns that no edge is between, were squares a row: file a", "e1K e8k a5p h5P h4P h6P", "a6"},
		{"pawns that no edge is between, were squares a row: file h", "e1K e8k h5p a5P a6P a7P", "h6"},
		{"the pawn is pinned on its file", "e1K h8k d5p e5P e8r", "d6"},
		{"the pawn is pinned on its file, by a queen from behind", "e8K h8k d5p e5P e1q", "d6"},
		{"the pawn is pinned on its diagonal", "h2K h8k f5p e5P b8b", "f6"},
		{"the pawn is pinned on the other diagonal", "b2K a8k d5p e5P h8b", "d6"},
		{"the pawn is pinned on its diagonal, by a queen", "a1K a8k d5p e5P g7q", "d6"},
		{"both leave the king's rank", "a5K h8k d5p e5P h5r", "d6"},
		{"both leave the king's rank, to its left", "h5K h8k d5p e5P a5q", "d6"},
		{"both leave the king's rank, the king beside them", "d5K h8k f5p e5P h5q", "f6"},
		{"the taken pawn stood in the way of a bishop", "f7K h8k d5p e5P b3b", "d6"},
		{"the taken pawn stood in the way of a queen", "a2K h8k d5p e5P g8q", "d6"},
		{"in check by a rook", "a1K h8k d5p e5P a8r", "d6"},
		{"in check by a knight", "e1K h8k d5p e5P f3n", "d6"},
		{"in check by a bishop", "e1K h8k d5p e5P h4b", "d6"},
		{"in check by another pawn", "e1K h8k d5p e5P d2p", "d6"},
		{"in check by that pawn, and by a rook", "e4K h8k d5p e5P h4r", "d6"},
		{"in check by that pawn, and the taker is pinned", "c4K h8k d5p b5P a6b", "d6"},
		{"both takers are pinned", "d4K h8k d5p c5P e5P a7b g7b", "d6"},
	} {
		takes(t, c.what, drawn(c.puts, c.over), false)
	}
}

// TestOverGoneThrough has both kinds of takers, and neither, on each file.
func TestOverGoneThrough(t *testing.T) { // P12.1
	for file := range 8 {
		for beside := range 4 {
			p := sample.Drawn("a1K a8k")
			p.Over, p.Squares[32+file] = 40+file, sample.Piece('p')
			left, right := beside&1 != 0 && file > 0, beside&2 != 0 && file < 7
			if left {
				p.Squares[31+file] = sample.Piece('P')
			}
			if right {
				p.Squares[33+file] = sample.Piece('P')
			}
			takes(t, "on a file", p, left || right)
		}
	}
}

func TestExamples(t *testing.T) { // P12.1
	e4, _ := legal.Play(board.Start(), sample.Move("e2e4"))
	takes(t, "e2 to e4 at the begin", e4, false)
	for _, c := range []struct {
		row string
		may bool
	}{
		{"e2e4 a7a6 e4e5 d7d5", true},
		{"e2e4 a7a6 e4e5 f7f5", true},
		{"e2e4 a7a6 e4e5 g7g5", false},
		{"a2a3 d7d5 a3a4 d5d4 e2e4", true},
		{"a2a3 d7d5 a3a4 d5d4 c2c4", true},
		{"a2a3 d7d5 a3a4 d5d4 b2b4", false},
		{"e2e4 a7a6 e4e5 a6a5 e1e2 a5a4 e2e3 a4a3 e3e4 d7d5", true},
		{"e2e4 e7e6 e4e5 d8g5 a2a3 g5e5 d1e2 a7a6 g2g4 h7h5", false},
	} {
		p, errno := legal.Play(board.Start(), sample.Moves(c.row)...)
		if errno != api.OK {
			t.Fatalf("%s: %d", c.row, errno)
		}
		takes(t, c.row, p, c.may)
	}
	takes(t, "black's pawns on either side", sample.WhiteLeapt(), true)
	takes(t, "white's pawns on either side", sample.BlackLeapt(), true)
	for _, p := range []api.Position{board.Start(), sample.Midst(), sample.Late(), sample.Drawn("e1K e8k e5P d5p")} {
		if got := again.Over(p); got != api.NoSquare {
			t.Errorf("no pawn went two ranks: over %d, of %v", got, p)
		}
	}
}

// TestUnlikeOver has pawns of which each may be the one that went two ranks.
func TestUnlikeOver(t *testing.T) { // P12.1
	a, b := drawn("e1K e8k b5p g5p", "b6"), drawn("e1K e8k b5p g5p", "g6")
	alike(t, "neither may be taken over", a, b, true)
	a, b = drawn("e1K h8k b5p g5p c5P h5P c8r a1r", "b6"), drawn("e1K h8k b5p g5p c5P h5P c8r a1r", "g6")
	alike(t, "neither may be taken over, in check", a, b, true)
	a, b = drawn("e1K e8k b5p g5p c5P", "b6"), drawn("e1K e8k b5p g5p c5P", "g6")
	alike(t, "one may be taken over", a, b, false)
	a, b = drawn("e1K e8k b5p g5p c5P h5P", "b6"), drawn("e1K e8k b5p g5p c5P h5P", "g6")
	alike(t, "both may be taken over", a, b, false)
	a, b = drawn("e1K e8k b5p d5p c5P", "b6"), drawn("e1K e8k b5p d5p c5P", "d6")
	alike(t, "both may be taken over, by one pawn", a, b, false)
}

// bases are right positions, of white's move and of black's.
func bases() []api.Position {
	all := sample.Right()
	for _, p := range sample.Right() {
		all = append(all, board.Turn(p))
	}
	return all
}

func TestUnlikeSquares(t *testing.T) { // P12.1
	for _, p := range bases() {
		for s := range p.Squares {
			for _, x := range append(sample.Pieces(), api.Piece{}) {
				q := p
				q.Squares[s] = x
				if again.Same(p, q) != (p == q) || (again.Key(p) == again.Key(q)) != (p == q) {
					t.Fatalf("%v on %d: Same %v, one Key: %v", x, s, again.Same(p, q), again.Key(p) == again.Key(q))
				}
			}
		}
	}
	p := sample.Drawn("e1K e8k a1R h8r")
	alike(t, "two pieces changed about", p, sample.Set(p, "a1r h8R"), false)
	alike(t, "a king and a queen changed about", sample.Set(p, "d1Q"), sample.Set(p, "d1K e1Q"), false)
	alike(t, "all one square on", sample.Drawn("a1K c1k"), sample.Drawn("b1K d1k"), false)
}

func TestUnlikeSide(t *testing.T) { // P12.1
	for _, p := range bases() {
		q := without(p)
		q.Side = board.Other(p.Side)
		alike(t, "the other side moves", without(p), q, false)
		alike(t, "turned", p, board.Turn(p), false)
	}
}

func TestUnlikeCastle(t *testing.T) { // P12.1
	for _, p := range bases() {
		for a := range api.Castle(16) {
			for b := range api.Castle(16) {
				alike(t, "with unlike castlings", sample.Castle(p, a), sample.Castle(p, b), a == b)
			}
		}
	}
}

// TestCounts has positions with all sorts of Half and Full that they may have, or not.
func TestCounts(t *testing.T) { // P12.1, P12.3
	for _, p := range append(bases(), drawn("e1K h8k d5p e5P e8r", "d6"), sample.Bare(), api.Position{}) {
		for _, half := range halves() {
			for _, full := range fulls() {
				alike(t, "itself, with other counts", p, sample.Counts(p, half, full), true)
			}
		}
		q := p
		q.Squares[20] = sample.Piece('n')
		alike(t, "another one with the same counts", p, q, false)
	}
}
