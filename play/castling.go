package play

import "zugzwang/api"

const (
	a1 = 0
	c1 = 2
	e1 = 4
	g1 = 6
	h1 = 7
	a8 = 56
	c8 = 58
	e8 = 60
	g8 = 62
	h8 = 63
)

const (
	whiteCastlings = api.WhiteShort + api.WhiteLong
	blackCastlings = api.BlackShort + api.BlackLong
	allCastlings   = whiteCastlings + blackCastlings
)

// castling is one by its number in Castle: whose king goes from where to where, and the corner that the rook leaves.
type castling struct {
	castle           api.Castle
	side             api.Side
	from, to, corner int
}

var castlings = [4]castling{
	{api.WhiteShort, api.White, e1, g1, h1},
	{api.WhiteLong, api.White, e1, c1, a1},
	{api.BlackShort, api.Black, e8, g8, h8},
	{api.BlackLong, api.Black, e8, c8, a8},
}

// losses are the castlings that a move from or to a square loses.
func losses() map[int]api.Castle {
	return map[int]api.Castle{
		e1: whiteCastlings,
		h1: api.WhiteShort,
		a1: api.WhiteLong,
		e8: blackCastlings,
		h8: api.BlackShort,
		a8: api.BlackLong,
	}
}
