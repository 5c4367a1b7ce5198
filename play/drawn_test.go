package play_test

import (
	"zugzwang/api"
	"zugzwang/sample"
)

var (
	piece = sample.Piece
	sq    = sample.Square
	mv    = sample.Move
	row   = sample.Moves
	set   = sample.Set
	drawn = sample.Board

	bare       = sample.Bare
	begin      = sample.Begin
	midst      = sample.Midst
	whiteLeapt = sample.WhiteLeapt
	blackLeapt = sample.BlackLeapt
	late       = sample.Late
	rightOnes  = sample.Right
	blackMoves = sample.Black

	noSquares    = sample.WrongSquares
	wrongSides   = sample.WrongSides
	wrongKinds   = sample.WrongKinds
	wrongCastles = sample.WrongCastles
	wrongPieces  = sample.WrongPieces
	rightPieces  = sample.Pieces

	// odd and blackNone are no pieces, and not none.
	odd       = sample.Piece('?')
	blackNone = sample.Piece('!')
)

// behind is what a move leaves of a position: other things on squares, and the rest as told.
func behind(p api.Position, puts, over string, castle api.Castle, half, full int) api.Position {
	q := set(p, puts)
	q.Side, q.Over, q.Castle, q.Half, q.Full = 1-p.Side, sq(over), castle, half, full
	return q
}
