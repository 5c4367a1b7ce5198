package board

import (
	"zugzwang/api"
	"zugzwang/square"
)

// turnSquare leaves what is no square as it is.
func turnSquare(s int) int {
	if !square.Is(s) {
		return s
	}
	return square.At(square.File(s), lastRank-square.Rank(s))
}

// turnPiece leaves what is no piece that may be as it is, or a none would get a side.
func turnPiece(x api.Piece) api.Piece {
	if mayBe(x) {
		x.Side = Other(x.Side)
	}
	return x
}

// turnCastle exchanges white's two castlings, which are the lower ones, with black's.
func turnCastle(c api.Castle) api.Castle {
	if !isCastle(c) {
		return c
	}
	return c%api.BlackShort*api.BlackShort + c/api.BlackShort
}
