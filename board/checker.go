package board

import (
	"zugzwang/api"
	"zugzwang/square"
)

const (
	lastRank      = 7
	whiteOfficers = 0
	whitePawns    = 1
	blackPawns    = 6
	blackOfficers = lastRank
	firstFull     = 1
	allCastlings  = api.WhiteShort + api.WhiteLong + api.BlackShort + api.BlackLong
)

const (
	a1 = 0
	e1 = 4
	h1 = 7
	a8 = 56
	e8 = 60
	h8 = 63
)

// officers are what stands behind the pawns at the begin, from file a on.
var officers = [8]api.Kind{api.Rook, api.Knight, api.Bishop, api.Queen, api.King, api.Bishop, api.Knight, api.Rook}

// castling is one that may not yet be lost, and where its king and its rook must stand then.
type castling struct {
	castle     api.Castle
	side       api.Side
	king, rook int
}

var castlings = [4]castling{
	{api.WhiteShort, api.White, e1, h1},
	{api.WhiteLong, api.White, e1, a1},
	{api.BlackShort, api.Black, e8, h8},
	{api.BlackLong, api.Black, e8, a8},
}

// leap is how a pawn went two ranks in the last move: over a square of a rank, from the one so many ranks on to the one so many ranks back.
type leap struct {
	over, on int
	pawn     api.Piece
}

// lastLeap is the leap that the side may have made which moved ahead of the side that moves now.
func lastLeap(moves api.Side) leap {
	if moves == api.White {
		return leap{5, 1, api.Piece{Kind: api.Pawn, Side: api.Black}}
	}
	return leap{2, -1, api.Piece{Kind: api.Pawn, Side: api.White}}
}

func none(x api.Piece) bool {
	return x == api.Piece{}
}

func mayBe(x api.Piece) bool {
	return x.Kind >= api.Pawn && x.Kind <= api.King && isSide(x.Side)
}

func isSide(s api.Side) bool {
	return s == api.White || s == api.Black
}

// checker judges the position that it has.
type checker struct {
	api.Position
}

func (c *checker) right() bool {
	return c.piecesRight() && c.castlingsRight() && c.overRight() && c.countsRight()
}

func (c *checker) piecesRight() bool {
	var kings [2]int
	for s, x := range c.Squares {
		if none(x) {
			continue
		}
		if !mayBe(x) || x.Kind == api.Pawn && onEndRank(s) {
			return false
		}
		if x.Kind == api.King {
			kings[x.Side]++
		}
	}
	return kings == [2]int{1, 1} && isSide(c.Side)
}

func onEndRank(s int) bool {
	rank := square.Rank(s)
	return rank == whiteOfficers || rank == blackOfficers
}

func (c *checker) castlingsRight() bool {
	if !isCastle(c.Castle) {
		return false
	}
	for _, k := range castlings {
		if c.Castle&k.castle != 0 && !c.waits(k) {
			return false
		}
	}
	return true
}

func isCastle(c api.Castle) bool {
	return c >= 0 && c <= allCastlings
}

// waits says whether king and rook of a castling stand where they began.
func (c *checker) waits(k castling) bool {
	king, rook := api.Piece{Kind: api.King, Side: k.side}, api.Piece{Kind: api.Rook, Side: k.side}
	return c.Squares[k.king] == king && c.Squares[k.rook] == rook
}

func (c *checker) overRight() bool {
	if c.Over == api.NoSquare {
		return true
	}
	l := lastLeap(c.Side)
	if square.Rank(c.Over) != l.over || c.Half != 0 {
		return false
	}
	from, to := square.Step(c.Over, 0, l.on), square.Step(c.Over, 0, -l.on)
	return none(c.Squares[c.Over]) && none(c.Squares[from]) && c.Squares[to] == l.pawn
}

func (c *checker) countsRight() bool {
	return c.Half >= 0 && c.Half <= api.MaxHalf && c.Full >= firstFull && c.Full <= api.MaxFull
}
