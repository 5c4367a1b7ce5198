package sample

import (
	"math"

	"zugzwang/api"
)

// WrongSquares are numbers below and above the board's.
func WrongSquares() []int {
	return []int{-1, -2, -8, -63, -64, -65, 64, 65, 71, 72, 127, 128, 256, 1 << 32, 1<<32 + 28, -1 << 32, math.MaxInt, math.MinInt}
}

// WrongSides are neither white nor black.
func WrongSides() []api.Side {
	return []api.Side{-1, 2, 3, -2, 4, 256, 257, 1 << 32, 1<<32 + 1, math.MaxInt, math.MinInt}
}

// WrongKinds are those of no piece, but none's.
func WrongKinds() []api.Kind {
	return []api.Kind{-1, -6, 7, 8, 12, 255, 256, 257, 1 << 32, 1<<32 + 5, math.MaxInt, math.MinInt}
}

// WrongCastles are no sums of castlings.
func WrongCastles() []api.Castle {
	return []api.Castle{-1, 16, -16, -15, 17, 31, 32, 255, 256, 271, 1 << 32, 1<<32 + 15, math.MaxInt, math.MinInt, math.MinInt + 15}
}

// WrongPieces are no pieces, and not none.
func WrongPieces() []api.Piece {
	all := []api.Piece{Piece('!')}
	for _, k := range WrongKinds() {
		all = append(all, api.Piece{Kind: k}, api.Piece{Kind: k, Side: api.Black})
	}
	for _, s := range WrongSides() {
		for k := api.NoKind; k <= 7; k++ {
			all = append(all, api.Piece{Kind: k, Side: s})
		}
	}
	return all
}

// Scattered is a position with anything on its squares, also what is no piece; it is seldom right, and kings stand on their squares often. It hangs on draw alone, which answers a number from 0 on, below the one it is given.
func Scattered(draw func(int) int) api.Position {
	p := api.Position{
		Side:   api.Side(draw(2)),
		Castle: api.Castle(draw(16)),
		Over:   oneOf(draw, -1, draw(64), 40+draw(8), 16+draw(8)),
		Half:   oneOf(draw, 0, 1, draw(1030), 1023, 1024, 1025, -1, math.MaxInt, math.MinInt),
		Full:   oneOf(draw, 1, 2, draw(16390), 16383, 16384, 16385, 0, math.MaxInt, math.MinInt),
	}
	if draw(8) == 0 {
		p.Castle, p.Over = oneOf(draw, WrongCastles()...), oneOf(draw, WrongSquares()...)
	}
	if draw(12) == 0 {
		p.Side = oneOf(draw, WrongSides()...)
	}
	wrong, right, dense := WrongPieces(), Pieces(), draw(9)+1
	for s := range p.Squares {
		switch {
		case draw(10) >= dense:
		case draw(16) == 0:
			p.Squares[s] = oneOf(draw, wrong...)
		default:
			p.Squares[s] = oneOf(draw, right...)
		}
	}
	if draw(2) == 0 {
		p = Set(p, "e1K e8k")
	}
	return p
}

func oneOf[T any](draw func(int) int, all ...T) T {
	return all[draw(len(all))]
}

// WrongReasons are numbers of no reason. Many are one of a reason, if one takes less than all of their bits, or leaves their sign out.
func WrongReasons() []api.Reason {
	all := []api.Reason{-1, 11, 12, 15, 255, math.MaxInt, math.MinInt}
	for why := api.NoReason; why <= api.BadSeal; why++ {
		all = append(all, 16+why, 256+why, 1<<16+why, 1<<32+why, math.MinInt+why)
		if why > 1 {
			all = append(all, -why)
		}
	}
	return all
}

// Reasons are all that there are, NoReason ahead.
func Reasons() []api.Reason {
	var all []api.Reason
	for why := api.NoReason; why <= api.BadSeal; why++ {
		all = append(all, why)
	}
	return all
}
