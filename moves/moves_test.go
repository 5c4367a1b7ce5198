package moves_test

import (
	"slices"
	"strings"
	"testing"

	"zugzwang/api"
	"zugzwang/board"
	"zugzwang/moves"
	"zugzwang/sample"
)

func from(t *testing.T, what string, p api.Position, s int, want []api.Move) {
	t.Helper()
	if got := moves.From(p, s); !slices.Equal(got, want) {
		t.Errorf("%s: from %d: %v, want %v", what, s, got, want)
	}
}

// goes asks the moves from a square by its name.
func goes(t *testing.T, what string, p api.Position, at, names string) {
	t.Helper()
	from(t, what, p, sample.Square(at), sample.To(at, names))
}

// allGo asks all moves, given by squares with what their pieces go to: b1: a3 c3, and so on.
func allGo(t *testing.T, what string, p api.Position, squares ...string) {
	t.Helper()
	var want []api.Move
	for _, text := range squares {
		at, names, _ := strings.Cut(text, ":")
		goes(t, what, p, at, names)
		want = append(want, sample.To(at, names)...)
	}
	if got := moves.All(p); !slices.Equal(got, want) {
		t.Errorf("%s: all are %v, want %v", what, got, want)
	}
}

// things are all pieces that may be, and what is none but stands.
func things() []api.Piece {
	return append(sample.Pieces(), sample.WrongPieces()...)
}

// alone has a thing alone on a square of a position of its side.
func alone(x api.Piece, s int) api.Position {
	p := sample.Bare()
	p.Side, p.Squares[s] = x.Side, x
	return p
}

func TestBegin(t *testing.T) { // P9.1
	allGo(t, "the begin", board.Start(),
		"b1: a3 c3", "g1: f3 h3", "a2: a3 a4", "b2: b3 b4", "c2: c3 c4", "d2: d3 d4", "e2: e3 e4", "f2: f3 f4", "g2: g3 g4", "h2: h3 h4")
	allGo(t, "the begin, of black", sample.Black(board.Start()),
		"a7: a5 a6", "b7: b5 b6", "c7: c5 c6", "d7: d5 d6", "e7: e5 e6", "f7: f5 f6", "g7: g5 g6", "h7: h5 h6", "b8: a6 c6", "g8: f6 h6")
	if n := len(moves.All(board.Start())); n != 20 {
		t.Errorf("the begin has %d moves", n)
	}
	for _, at := range []string{"a1", "c1", "d1", "e1", "f1", "h1", "e3", "e4", "e7", "b8", "e8"} {
		goes(t, "the begin", board.Start(), at, "")
	}
}

func TestMidst(t *testing.T) { // P9.1
	allGo(t, "in the midst", sample.Midst(),
		"a1: b1 c1 d1", "e1: c1 d1 f1 g1 e2", "h1: f1 g1",
		"a2: a3 a4", "b2: b3 b4", "c2:", "d2: c1 d1 e2", "f2:", "g2: g3 g4", "h2: h3 h4",
		"c3: b1 d1 e2 a4 b5 d5", "d3: d4", "e3: d4 f4 c5 g5 h6", "f3: g1 d4 h4 e5 g5", "c4: b3 b5 d5 a6 e6", "e4:")
	allGo(t, "in the midst, of black", sample.Black(sample.Midst()),
		"c5: a3 e3 b4 d4 b6", "e5:", "c6: b4 d4 a5 e7 b8 d8", "d6: d5", "e6: h3 c4 g4 d5 f5", "f6: e4 g4 d5 h5 g8",
		"a7: a5 a6", "b7: b5 b6", "c7:", "d7: e7 c8 d8", "f7:", "g7: g5 g6", "h7: h5 h6",
		"a8: b8 c8 d8", "e8: e7 c8 d8 f8 g8", "h8: f8 g8")
	for _, at := range []string{"c5", "e8", "a7", "b1", "e2", "d4"} {
		goes(t, "in the midst", sample.Midst(), at, "")
	}
}

func TestLeapt(t *testing.T) { // P9.1
	allGo(t, "white leapt", sample.WhiteLeapt(),
		"d4: d3 e3", "f4: e3 f3", "a7: a5 a6", "b7: b5 b6", "f7: f5 f6", "g7: g5 g6", "h7: h5 h6", "e8: d7 e7 d8 f8")
	allGo(t, "black leapt", sample.BlackLeapt(),
		"e1: d1 f1 d2 e2", "a2: a3 a4", "b2: b3 b4", "f2: f3 f4", "g2: g3 g4", "h2: h3 h4", "c5: c6 d6", "e5: d6 e6")
}

func TestLate(t *testing.T) { // P9.1
	allGo(t, "late", sample.Late(),
		"a1: b1 a2 b2", "d1: b1 c1 e1 d2 d3 d4 d5 d6", "f1: d2 h2 e3 g3", "d7: c8= d8= e8=")
	allGo(t, "late, of black", sample.Black(sample.Late()),
		"e2: d1= e1= f1=", "c8: b6 d6 a7 e7", "e8: e3 e4 e5 e6 e7 d8 f8 g8", "h8: g7 h7 g8")
}

// TestAllOfMany has two kings of a side, no king of the other, and more pieces of a kind than there are in a game.
func TestAllOfMany(t *testing.T) { // P9.1
	p := sample.Board("........", "........", "........", "........", "........", "........", "PPPPPPPP", "K......K")
	allGo(t, "two kings", p, "a1: b1", "h1: g1",
		"a2: a3 a4", "b2: b3 b4", "c2: c3 c4", "d2: d3 d4", "e2: e3 e4", "f2: f3 f4", "g2: g3 g4", "h2: h3 h4")
	allGo(t, "no piece of black's", sample.Black(p))
	allGo(t, "a bare board", sample.Bare())
	allGo(t, "a zero position", api.Position{})
	for i := range sample.Pieces() {
		var p api.Position
		x := sample.Pieces()[i]
		p.Side = x.Side
		for s := range p.Squares {
			p.Squares[s] = x
		}
		allGo(t, "a full board", p)
	}
}

func TestLess(t *testing.T) { // P9.1
	rising := []api.Move{
		{From: -1 << 63, To: 1<<63 - 1, Becomes: 1<<63 - 1},
		{From: -1, To: 63, Becomes: api.Queen},
		{From: 0, To: -1 << 63, Becomes: 1<<63 - 1},
		{From: 0, To: -1, Becomes: api.Queen},
		{From: 0, To: 0, Becomes: -1 << 63},
		{From: 0, To: 0, Becomes: -1},
		{},
		{From: 0, To: 0, Becomes: 1<<63 - 1},
		{From: 0, To: 1},
		{From: 0, To: 63, Becomes: api.Queen},
		{From: 0, To: 1<<63 - 1, Becomes: -1 << 63},
		{From: 1, To: -1 << 63, Becomes: -1 << 63},
		{From: 1, To: 9},
		{From: 2},
		sample.Move("a7a8"), sample.Move("a7a8P"), sample.Move("a7a8N"), sample.Move("a7a8B"), sample.Move("a7a8R"), sample.Move("a7a8Q"), sample.Move("a7a8K"),
		sample.Move("a7b8N"), sample.Move("b7a8N"), sample.Move("b7a8Q"), sample.Move("b7b8N"),
		{From: 64, To: 0},
		{From: 1<<63 - 1, To: -1 << 63, Becomes: -1 << 63},
		{From: 1<<63 - 1, To: 1<<63 - 1, Becomes: 1<<63 - 2},
		{From: 1<<63 - 1, To: 1<<63 - 1, Becomes: 1<<63 - 1},
	}
	for i, a := range rising {
		for j, b := range rising {
			if got := moves.Less(a, b); got != (i < j) {
				t.Errorf("Less(%v, %v) = %v", a, b, got)
			}
		}
	}
}
