package legal_test

import (
	"testing"

	"zugzwang/api"
	"zugzwang/legal"
	"zugzwang/sample"
)

// TestTakesOver has pawns that take over, white's on e5 or where it is told; turned, they are black's.
func TestTakesOver(t *testing.T) { // P10.1
	for _, c := range []struct{ what, puts, over, at, names string }{
		{"back", "e1K e5P d5p e8k", "d6", "e5", "d6 e6"},
		{"on", "e1K e5P f5p e8k", "f6", "e5", "e6 f6"},
		{"not what went earlier", "e1K e5P d5p e8k", "", "e5", "e6"},
		{"pinned on the rank, with both pawns", "a5K e5P d5p h5r h8k", "d6", "e5", "e6"},
		{"pinned on the rank, with both pawns, the king beside", "d5K e5P f5p h5q h8k", "f6", "e5", "e6"},
		{"pinned on the rank, from the other side", "h5K e5P f5p a5r a8k", "f6", "e5", "e6"},
		{"not pinned on the rank, as a third stands there", "a5K b5N e5P d5p h5r h8k", "d6", "e5", "d6 e6"},
		{"not pinned on the rank, by a bishop", "a5K e5P d5p h5b h8k", "d6", "e5", "d6 e6"},
		{"pinned on the file", "e1K e5P d5p e8r h8k", "d6", "e5", "e6"},
		{"pinned up to the left, along the line", "h2K e5P d5p c7b h8k", "d6", "e5", "d6"},
		{"pinned up to the right, along the line", "b2K e5P f5p h8b a8k", "f6", "e5", "f6"},
		{"pinned up to the right, off the line", "b2K e5P d5p h8b a8k", "d6", "e5", ""},
		{"pinned up to the left, off the line", "h2K e5P f5p b8b h8k", "f6", "e5", ""},
		{"the taken pawn stood in the way of a bishop", "f7K e5P d5p b3b h8k", "d6", "e5", "e6"},
		{"the taken pawn stood in the way of a queen, down", "a2K e5P d5p g8q h8k", "d6", "e5", "e6"},
		{"the taken pawn stood on the king's file, and it goes there", "d1K e5P d5p d8r h8k", "d6", "e5", "d6 e6"},
		{"the taken pawn attacked the king", "e4K e5P d5p h8k", "d6", "e5", "d6"},
		{"the taken pawn attacked the king, from the other side", "e4K e5P f5p h8k", "f6", "e5", "f6"},
		{"the taken pawn attacked the king, but another does, too", "e4K e5P d5p h4r h8k", "d6", "e5", ""},
		{"the taken pawn attacked the king, and the taker is pinned", "c4K b5P d5p a6b h8k", "d6", "b5", ""},
		{"in the way of what attacks the king", "a3K e5P d5p f8b h8k", "d6", "e5", "d6"},
		{"of no help in check", "a1K e5P d5p a8r h8k", "d6", "e5", ""},
		{"of no help in check by a knight", "e1K e5P d5p f3n h8k", "d6", "e5", ""},
		{"at the edge", "e1K b5P a5p e8k", "a6", "b5", "a6 b6"},
		{"not over the edge", "e1K h5P a5p e8k", "a6", "h5", "h6"},
		{"of two pawns one, pinned on the file", "e1K e5P c5P d5p e8r h8k", "d6", "e5", "e6"},
		{"of two pawns the other, not pinned", "e1K e5P c5P d5p e8r h8k", "d6", "c5", "c6 d6"},
		{"of two pawns one, on the king's rank", "a5K c5P d5p e5P h5r h8k", "d6", "c5", "c6 d6"},
		{"of two pawns the other, on the king's rank", "a5K c5P d5p e5P h5r h8k", "d6", "e5", "d6 e6"},
	} {
		goes(t, "takes over: "+c.what, over(drawn(c.puts), c.over), c.at, c.names)
	}
}

// TestTakesOverPlayed has a row that ends with it, and one in which it comes a move too late.
func TestTakesOverPlayed(t *testing.T) { // P10.2
	p, errno := legal.Play(sample.Begin(), sample.Moves("e2e4 a7a6 e4e5 d7d5 e5d6")...)
	want := sample.Set(sample.Begin(), "e2. a7. a6p d7. d6P")
	want.Side, want.Full = api.Black, 3
	if errno != api.OK || p != want {
		t.Errorf("%d, %v, want %v", errno, p, want)
	}
	for _, row := range []string{"e2e4 a7a6 e4e5 d7d5 a2a3 a6a5 e5d6", "e2e4 d7d6 e4e5 d6d5 e5d6", "e2e4 a7a6 e4e5 d7d5 e5f6"} {
		if p, errno := legal.Play(sample.Begin(), sample.Moves(row)...); errno != api.ErrMove || p != (api.Position{}) {
			t.Errorf("%s: %d, %v", row, errno, p)
		}
	}
}

// TestOverStalemate has no legal move but for a pawn that may not take over, as both leave the king's rank; and, the rook being gone, that one.
func TestOverStalemate(t *testing.T) { // P10.1
	p := sample.Black(over(drawn("a4k f4p f3P g4P h4R b8R c2N c6N h1K"), "g3"))
	allGo(t, "no move", p)
	allGo(t, "one move", sample.Set(p, "h4B"), "f4: g3")
}

func TestPawnsEnd(t *testing.T) { // P10.1
	for _, c := range []struct{ what, puts, at, names string }{
		{"straight on", "e1K b7P e8k", "b7", "b8="},
		{"straight on and by taking", "e1K b7P a8r c8n e7k", "b7", "a8= b8= c8="},
		{"by taking alone", "e1K b7P b8n c8q e7k", "b7", "c8="},
		{"in the corner", "e1K h7P g8b h8r e7k", "h7", "g8="},
		{"blocked", "e1K b7P b8r e7k", "b7", ""},
		{"out of check, between", "a8K d7P h8r e2k", "d7", "d8="},
		{"out of check, between or by taking", "a8K d7P e8r h2k", "d7", "d8= e8="},
		{"out of check, by taking alone", "a7K d7P c8n h2k", "d7", "c8="},
		{"of no help in check", "a1K d7P a8r h2k", "d7", ""},
		{"pinned on the file, straight on", "b1K b7P b8r e7k", "b7", ""},
		{"pinned on the file, not taking", "b1K b7P b8r c8n e7k", "b7", ""},
		{"pinned on a diagonal, taking along it", "a6K b7P c8b e7k a8n", "b7", "c8="},
		{"pinned on the rank", "a7K b7P h7r c8n e5k", "b7", ""},
		{"not ahead of the end", "e1K b6P a7r c7n e8k", "b6", "a7 b7 c7"},
	} {
		goes(t, "to the end: "+c.what, drawn(c.puts), c.at, c.names)
	}
	// By numbers, and what may not be become.
	p := drawn("e1K b7P a8r e8k")
	for from, to := range map[int]int{49: 57, 50: 58} {
		q := p
		q.Squares[49], q.Squares[from] = api.Piece{}, api.Piece{Kind: api.Pawn}
		for becomes := api.Kind(-1); becomes <= 7; becomes++ {
			want := becomes == api.Knight || becomes == api.Bishop || becomes == api.Rook || becomes == api.Queen
			if legal.Is(q, api.Move{From: from, To: to, Becomes: becomes}) != want {
				t.Errorf("a pawn on %d becomes %d, or not", from, becomes)
			}
		}
	}
	// What each becomes.
	for letter, x := range map[string]string{"N": "b8N", "B": "b8B", "R": "b8R", "Q": "b8Q"} {
		want := sample.Set(sample.Black(p), "b7. "+x)
		if got, errno := legal.Play(p, sample.Move("b7b8"+letter)); errno != api.OK || got != want {
			t.Errorf("becomes %s: %d, %v, want %v", letter, errno, got, want)
		}
	}
}

func TestPawnsGo(t *testing.T) { // P10.1
	for _, c := range []struct{ what, puts, at, names string }{
		{"a long step between", "a4K d2P h4r h8k", "d2", "d4"},
		{"a step between", "a3K d2P h3r h8k", "d2", "d3"},
		{"takes what attacks the king", "a3K d3P c4n h8k", "d3", "c4"},
		{"a long step off its pin's line", "e1K d2P a5b h8k", "d2", ""},
		{"not through what stands ahead", "e1K d2P d3n h8k f2B c7b", "d2", ""},
	} {
		goes(t, "a pawn: "+c.what, drawn(c.puts), c.at, c.names)
	}
}
