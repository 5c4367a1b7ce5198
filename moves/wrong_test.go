package moves_test

import (
	"testing"

	"zugzwang/api"
	"zugzwang/moves"
	"zugzwang/sample"
)

func TestFromNone(t *testing.T) { // P9.1
	positions := append(sample.Right(), sample.Bare(), api.Position{}, sample.Black(sample.Begin()), api.Position{Side: -1})
	for _, p := range positions {
		for _, s := range sample.WrongSquares() {
			from(t, "no square", p, s, nil)
		}
		for s, x := range p.Squares {
			if x == (api.Piece{}) {
				from(t, "nothing there", p, s, nil)
			}
			if x.Kind != api.NoKind && x.Side != p.Side {
				from(t, "the other side's", p, s, nil)
			}
		}
	}
}

// TestNoPieces has what is no piece on squares from which a piece of any kind could go.
func TestNoPieces(t *testing.T) { // P9.1
	for _, x := range sample.WrongPieces() {
		for _, side := range []api.Side{api.White, api.Black, x.Side} {
			for _, name := range []string{"a1", "e1", "d2", "e4", "d7", "e8", "h8"} {
				p := with(sample.Bare(), x, name)
				p.Side, p.Castle, p.Over = side, 15, sample.Square("d5")
				allGo(t, "no piece", p, name+":")
				// Rooks may not castle with it, either.
				p = with(with(sample.Bare(), sample.Piece('R'), "a1 h1"), sample.Piece('r'), "a8 h8")
				p = with(p, x, name)
				p.Side, p.Castle = side, 15
				goes(t, "no piece between rooks", p, name, "")
			}
		}
	}
}

func TestWrongSides(t *testing.T) { // P9.1
	for _, side := range sample.WrongSides() {
		for _, p := range sample.Right() {
			own := p
			for s, x := range p.Squares {
				if x.Kind != api.NoKind {
					own.Squares[s].Side = side
				}
			}
			for _, q := range []api.Position{p, own} {
				q.Side = side
				if got := moves.All(q); len(got) != 0 {
					t.Errorf("of the side %d: %v", side, got)
				}
				for s := range 64 {
					from(t, "a side that may not be", q, s, nil)
				}
			}
			own.Side = api.White
			if got := moves.All(own); len(got) != 0 {
				t.Errorf("of white, which has none: %v", got)
			}
		}
		// Things of neither side are in the way, and are taken, but not by pawns.
		p := with(sample.Bare(), api.Piece{Kind: api.Pawn, Side: side}, "d5 e5 f5 d1 h4")
		p = sample.Set(p, "e4P h1R")
		allGo(t, "things of no side", p, "h1: d1 e1 f1 g1 h2 h3 h4", "e4:")
		allGo(t, "things of no side, of black", sample.Black(sample.Set(p, "e4. h1. e6p h8r")), "e6:", "h8: h4 h5 h6 h7 a8 b8 c8 d8 e8 f8 g8")
	}
}

// TestCountsAreNoMatter has counts that may not be.
func TestCountsAreNoMatter(t *testing.T) { // P9.1
	for _, n := range sample.WrongSquares() {
		p := sample.Late()
		p.Half, p.Full = n, -n
		allGo(t, "with any counts", p, "a1: b1 a2 b2", "d1: b1 c1 e1 d2 d3 d4 d5 d6", "f1: d2 h2 e3 g3", "d7: c8= d8= e8=")
	}
}

// TestWrongOver has an Over that is no square, with pawns at all edges.
func TestWrongOver(t *testing.T) { // P9.1
	p := sample.Board("PPPPPPPP", "P......P", "P......P", "........", "........", "p......p", "p......p", "pppppppp")
	for _, over := range sample.WrongSquares() {
		p.Over = over
		allGo(t, "with an Over that is none", p, "a6:", "h6:", "a7:", "h7:")
		allGo(t, "with an Over that is none, of black", sample.Black(p), "a2:", "h2:", "a3:", "h3:")
	}
}
