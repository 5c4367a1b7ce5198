package moves_test

import (
	"strings"
	"testing"

	"zugzwang/api"
	"zugzwang/moves"
	"zugzwang/sample"
)

// castled is a castling, and what it asks: the king's moves with it and without, on an open rank.
type castled struct {
	what                  string
	has                   api.Castle
	king, rook            byte
	from, corner, between string
	with, without         string
}

func castlings() []castled {
	return []castled{
		{"white's short", 1, 'K', 'R', "e1", "h1", "f1 g1", "d1 f1 g1 d2 e2 f2", "d1 f1 d2 e2 f2"},
		{"white's long", 2, 'K', 'R', "e1", "a1", "b1 c1 d1", "c1 d1 f1 d2 e2 f2", "d1 f1 d2 e2 f2"},
		{"black's short", 4, 'k', 'r', "e8", "h8", "f8 g8", "d7 e7 f7 d8 f8 g8", "d7 e7 f7 d8 f8"},
		{"black's long", 8, 'k', 'r', "e8", "a8", "b8 c8 d8", "d7 e7 f7 c8 d8 f8", "d7 e7 f7 d8 f8"},
	}
}

// ready has a king and a rook that may castle, of the side that moves.
func (c castled) ready() api.Position {
	p := alone(sample.Piece(c.king), sample.Square(c.from))
	p.Castle = c.has
	return with(p, sample.Piece(c.rook), c.corner)
}

func TestCastle(t *testing.T) { // P9.1
	for _, c := range castlings() {
		for castle := range api.Castle(16) {
			p, want := c.ready(), c.without
			p.Castle = castle
			if castle&c.has != 0 {
				want = c.with
			}
			goes(t, c.what, p, c.from, want)
		}
		for _, castle := range sample.WrongCastles() {
			p := c.ready()
			p.Castle = castle
			goes(t, c.what+", of a Castle that is none", p, c.from, c.without)
		}
	}
	p := sample.Board("r...k..r", "........", "........", "........", "........", "........", "........", "R...K..R")
	p.Castle = 15
	goes(t, "either way", p, "e1", "c1 d1 f1 g1 d2 e2 f2")
	goes(t, "either way", sample.Black(p), "e8", "d7 e7 f7 c8 d8 f8 g8")
	goes(t, "not white's move", sample.Black(p), "e1", "")
	goes(t, "not black's move", p, "e8", "")
}

func TestCastleCorner(t *testing.T) { // P9.1
	for _, c := range castlings() {
		for _, x := range append(things(), api.Piece{}) {
			want := c.without
			if x == sample.Piece(c.rook) {
				want = c.with
			}
			goes(t, c.what+", with a thing on the corner", with(c.ready(), x, c.corner), c.from, want)
		}
		// A rook on another square than the corner is none.
		for _, s := range squares() {
			p := with(c.ready(), api.Piece{}, c.corner)
			if p.Squares[s] == (api.Piece{}) && s != sample.Square(c.corner) {
				p.Squares[s] = sample.Piece(c.rook)
				noCastling(t, c.what, p, sample.Square(c.from))
			}
		}
	}
}

// noCastling asks that no move from a square leads two files away.
func noCastling(t *testing.T, what string, p api.Position, s int) {
	t.Helper()
	for _, m := range moves.From(p, s) {
		if m.To == m.From+2 || m.To == m.From-2 {
			t.Errorf("%s: %v of %v", what, m, p)
		}
	}
}

func TestCastleBetween(t *testing.T) { // P9.1
	for _, c := range castlings() {
		for _, name := range strings.Fields(c.between) {
			for _, x := range things() {
				noCastling(t, c.what, with(c.ready(), x, name), sample.Square(c.from))
			}
		}
		for _, x := range things() {
			noCastling(t, c.what, with(c.ready(), x, c.between), sample.Square(c.from))
		}
		// What stands elsewhere is no matter: behind the king, on other ranks, on the other corner.
		behind := map[byte]string{'h': "a1 b1 c1 a8 b8 c8", 'a': "g1 h1 g8 h8"}[c.corner[0]]
		for _, x := range things() {
			goes(t, c.what+", with things elsewhere", with(c.ready(), x, behind+" a3 e3 g3 h6 c6 e6"), c.from, c.with)
		}
	}
}

// TestCastleAttacked has castlings out of check, through it and into it: that is asked elsewhere.
func TestCastleAttacked(t *testing.T) { // P9.1
	for _, file := range []string{"a", "b", "c", "d", "e", "f", "g", "h"} {
		for _, c := range castlings() {
			p := c.ready()
			other := sample.Square(file + "5")
			p.Squares[other] = api.Piece{Kind: api.Queen, Side: 1 - p.Side}
			goes(t, c.what+", attacked", p, c.from, c.with)
		}
	}
}

// TestCastleElsewhere has kings on other squares, and other pieces on the king's.
func TestCastleElsewhere(t *testing.T) { // P9.1
	for _, c := range castlings() {
		king, rook := sample.Piece(c.king), sample.Piece(c.rook)
		for _, s := range squares() {
			p := with(sample.Bare(), rook, "a1 h1 a8 h8")
			p.Side, p.Castle = king.Side, 15
			if p.Squares[s] == (api.Piece{}) && s != sample.Square(c.from) {
				p.Squares[s] = king
				noCastling(t, c.what+" from elsewhere", p, s)
			}
		}
		for _, x := range sample.Pieces() {
			if x.Side != king.Side || x.Kind == api.King || x.Kind == api.Rook || x.Kind == api.Queen {
				continue
			}
			p := c.ready()
			p.Squares[sample.Square(c.from)], p.Castle = x, 15
			noCastling(t, c.what, p, sample.Square(c.from))
		}
	}
	// Of two kings the one that stands there castles.
	goes(t, "of two kings", withCastle(sample.Set(sample.Bare(), "a8K e1K h1R e4K"), 1), "e1", "d1 f1 g1 d2 e2 f2")
	goes(t, "of two kings, the other", withCastle(sample.Set(sample.Bare(), "a8K e1K h1R e4K"), 1), "e4", "d3 e3 f3 d4 f4 d5 e5 f5")
	// White's king on black's square, and black's on white's.
	goes(t, "white's on e8", withCastle(sample.Set(sample.Bare(), "e8K a8R h8R"), 15), "e8", "d7 e7 f7 d8 f8")
	goes(t, "white's on e8, with black's rooks", withCastle(sample.Set(sample.Bare(), "e8K a8r h8r"), 15), "e8", "d7 e7 f7 d8 f8")
	goes(t, "black's on e1", withCastle(sample.Black(sample.Set(sample.Bare(), "e1k a1r h1r")), 15), "e1", "d1 f1 d2 e2 f2")
	goes(t, "black's on e1, with white's rooks", withCastle(sample.Black(sample.Set(sample.Bare(), "e1k a1R h1R")), 15), "e1", "d1 f1 d2 e2 f2")
	// A rook and a queen on the king's square go on and back as they do.
	goes(t, "a rook there", withCastle(sample.Set(sample.Bare(), "e1R a1R h1R e2P"), 15), "e1", "b1 c1 d1 f1 g1")
	goes(t, "a knight there", withCastle(sample.Set(sample.Bare(), "e1N a1R h1R"), 15), "e1", "c2 g2 d3 f3")
}

func withCastle(p api.Position, c api.Castle) api.Position {
	p.Castle = c
	return p
}
