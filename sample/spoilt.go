package sample

import (
	"math"
	"slices"

	"zugzwang/api"
	"zugzwang/board"
)

// Spoilt are positions of each sort that is not right, each of which is in but one thing other than one that is.
func Spoilt(p api.Position) []Named {
	return slices.Concat(spoiltByPieces(p), spoiltByKings(p), spoiltByRights(p), spoiltByCounts(p))
}

func spoiltByPieces(p api.Position) []Named {
	var all []Named
	empty := board.Find(p, api.Piece{})
	for i, x := range WrongPieces() {
		q := p
		q.Squares[empty[i*5%len(empty)]] = x
		all = append(all, Named{"with what is no piece", q})
	}
	for _, s := range empty {
		for _, side := range []api.Side{api.White, api.Black} {
			q := p
			q.Squares[s] = api.Piece{Kind: api.Pawn, Side: side}
			if s < 8 || s > 55 {
				all = append(all, Named{"with a pawn on a last rank", q})
			}
		}
	}
	return all
}

func spoiltByKings(p api.Position) []Named {
	none := p
	var all []Named
	for _, side := range []api.Side{api.White, api.Black} {
		king := api.Piece{Kind: api.King, Side: side}
		for _, s := range board.Find(p, api.Piece{}) {
			q := p
			q.Squares[s] = king
			all = append(all, Named{"with two kings of a side", q})
		}
		for _, s := range board.Find(p, king) {
			q := p
			q.Squares[s], none.Squares[s] = api.Piece{}, api.Piece{}
			all = append(all, Named{"without a side's king", q})
			q.Squares[s] = api.Piece{Kind: api.King, Side: 1 - side}
			all = append(all, Named{"with two kings of a side, none of the other", q})
		}
	}
	return append(all, Named{"without kings", none})
}

// spoiltByRights have a Side, a Castle, an Over that may not be, at all or as pieces stand.
func spoiltByRights(p api.Position) []Named {
	var all []Named
	for _, side := range WrongSides() {
		q := p
		q.Side = side
		all = append(all, Named{"of a Side that may not be", q})
	}
	for has := range api.Castle(16) {
		if q := Castle(p, has); !board.Right(q) {
			all = append(all, Named{"of castlings that are lost", q})
		}
	}
	for _, has := range WrongCastles() {
		all = append(all, Named{"of a Castle that may not be", Castle(p, has)})
	}
	for s := range 64 {
		q := p
		if q.Over = s; !board.Right(q) {
			all = append(all, Named{"over a square that no pawn went over", q})
		}
	}
	for _, s := range WrongSquares() {
		q := p
		if q.Over = s; s != api.NoSquare {
			all = append(all, Named{"of an Over that may not be", q})
		}
	}
	return all
}

func spoiltByCounts(p api.Position) []Named {
	var all []Named
	for _, half := range []int{-1, -2, -50, -99, -100, -101, -150, -1024, 1025, 1026, 2048, 1 << 32, 1<<32 + 100, 1<<32 + 150, -1 << 32, math.MaxInt, math.MinInt, math.MinInt + 150} {
		all = append(all, Named{"of a Half that may not be", Counts(p, half, p.Full)})
	}
	for _, full := range []int{0, -1, -100, 16385, 16386, 1 << 32, 1<<32 + 1, -1 << 32, math.MaxInt, math.MinInt} {
		all = append(all, Named{"of a Full that may not be", Counts(p, p.Half, full)})
	}
	if p.Over != api.NoSquare {
		for _, half := range []int{1, 100, 150} {
			all = append(all, Named{"over a square, but not in the last move", Counts(p, half, p.Full)})
		}
	}
	return all
}

// OtherInCheck are positions of white's move, which are right, but black is in check: by each kind of piece.
func OtherInCheck() []Named {
	var all []Named
	for _, puts := range []string{"e1K e8k e5R", "e1K e8k d7P", "e1K e8k f7P", "e1K e8k d6N", "e1K e8k h5B", "e1K e8k a4Q", "e1K e8k h8Q", "e4K e5k", "e4K d5k", "e1K e8k e5R d2p", "e1K e8k h1R h8R", "a1K h8k h7P g7P"} {
		all = append(all, Named{"black in check, with " + puts, Drawn(puts)})
	}
	return append(all, Named{"black in check at the begin", Set(Begin(), "d7. d6N")})
}
