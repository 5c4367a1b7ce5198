package moves

import (
	"slices"

	"zugzwang/api"
	"zugzwang/square"
)

const (
	e1 = 4
	e8 = 60
)

const allCastlings = api.WhiteShort + api.WhiteLong + api.BlackShort + api.BlackLong

// castling is one by its number in Castle: whose king goes from where, and by how many files a step.
type castling struct {
	castle   api.Castle
	side     api.Side
	from, by int
}

var castlings = [4]castling{
	{api.WhiteShort, api.White, e1, 1},
	{api.WhiteLong, api.White, e1, -1},
	{api.BlackShort, api.Black, e8, 1},
	{api.BlackLong, api.Black, e8, -1},
}

// castles are the squares to which a king castles.
func (m *mover) castles(s int) []int {
	var to []int
	for _, k := range castlings {
		if s == k.from && m.Side == k.side && m.has(k) && m.isClear(k) {
			to = append(to, square.Step(s, 2*k.by, 0))
		}
	}
	return to
}

// has says whether Castle has a castling; one that is no sum of some has none.
func (m *mover) has(k castling) bool {
	return m.Castle >= 0 && m.Castle <= allCastlings && m.Castle&k.castle != 0
}

// isClear says whether the first thing on the king's way to the corner is the rook there.
func (m *mover) isClear(k castling) bool {
	way := square.Ray(k.from, k.by, 0)
	first := slices.IndexFunc(way, m.stands)
	return first == len(way)-1 && m.Squares[way[first]] == api.Piece{Kind: api.Rook, Side: k.side}
}
