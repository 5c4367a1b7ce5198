package attack

import (
	"iter"

	"zugzwang/api"
	"zugzwang/board"
	"zugzwang/square"
)

// step is so many files and ranks.
type step struct {
	files, ranks int
}

// steps are those of all pieces, in an order in which each piece has its own side by side.
var steps = [16]step{
	{1, 0}, {-1, 0}, {0, 1}, {0, -1},
	{-1, 1}, {1, 1},
	{-1, -1}, {1, -1},
	{-1, -2}, {1, -2}, {-2, -1}, {2, -1}, {-2, 1}, {2, 1}, {-1, 2}, {1, 2},
}

// Where among the steps those along a file or a rank begin, the slanting ones up and down the board, and a knight's.
const (
	straight   = 0
	slantUp    = 4
	slantDown  = 6
	knights    = 8
	behindLast = 16
)

// gait is how a piece goes: by the steps from one up to another, each just once, or as far as it gets.
type gait struct {
	from, upTo int
	far        bool
}

// gaitOf has no steps of what is no piece.
func gaitOf(x api.Piece) gait {
	if !isSide(x.Side) {
		return gait{}
	}
	switch x.Kind {
	case api.Pawn:
		return pawnGait(x.Side)
	case api.Knight:
		return gait{knights, behindLast, false}
	case api.Bishop:
		return gait{slantUp, knights, true}
	case api.Rook:
		return gait{straight, slantUp, true}
	case api.Queen:
		return gait{straight, knights, true}
	case api.King:
		return gait{straight, knights, false}
	}
	return gait{}
}

func pawnGait(s api.Side) gait {
	if s == api.White {
		return gait{slantUp, slantDown, false}
	}
	return gait{slantDown, knights, false}
}

func isSide(s api.Side) bool {
	return s == api.White || s == api.Black
}

// finder finds what is attacked in the position that it has.
type finder struct {
	api.Position
}

// stands says whether something does, be it a piece or not.
func (f *finder) stands(s int) bool {
	return f.Squares[s] != api.Piece{}
}

// attacked goes through the squares that something would attack from a square, whatever stands there.
func (f *finder) attacked(s int, x api.Piece) iter.Seq[int] {
	return func(yield func(int) bool) {
		g := gaitOf(x)
		for i := g.from; i < g.upTo; i++ {
			by := steps[i]
			for to := square.Step(s, by.files, by.ranks); square.Is(to); to = square.Step(to, by.files, by.ranks) {
				if !yield(to) {
					return
				}
				if !g.far || f.stands(to) {
					break
				}
			}
		}
	}
}

// attackers goes through the squares on which a side's pieces stand that attack a square. It looks out from that square: a piece attacks it just if one of the same kind and of the other side would attack from it where the piece stands.
func (f *finder) attackers(s int, by api.Side) iter.Seq[int] {
	return func(yield func(int) bool) {
		if !isSide(by) {
			return
		}
		for kind := api.Pawn; kind <= api.King; kind++ {
			for from := range f.attacked(s, api.Piece{Kind: kind, Side: board.Other(by)}) {
				if f.Squares[from] == (api.Piece{Kind: kind, Side: by}) && !yield(from) {
					return
				}
			}
		}
	}
}
