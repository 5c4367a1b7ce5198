package sample

import (
	"zugzwang/api"
	"zugzwang/board"
)

// AnyRight is a right position with a king of each side and other pieces anywhere, castlings where they may be, and often a pawn that made a long step. It hangs on draw alone, which answers a number from 0 on, below the one it is given.
func AnyRight(draw func(int) int) api.Position {
	p := Bare()
	kings := [2]int{draw(64), draw(63)}
	if kings[1] >= kings[0] {
		kings[1]++
	}
	if draw(2) == 0 {
		kings = [2]int{4, 60}
		p = Set(p, "a1R h1R a8r h8r")
	}
	for range draw(24) {
		x, s := oneOf(draw, Pieces()...), draw(64)
		if x.Kind != api.King && (x.Kind != api.Pawn || s > 7 && s < 56) {
			p.Squares[s] = x
		}
	}
	p.Side, p.Full = api.Side(draw(2)), 1+draw(99)
	leapt := p
	if draw(3) == 0 {
		leapt = behindLeap(p, draw(8))
	}
	p, leapt = withKings(p, kings), withKings(leapt, kings)
	if board.Right(leapt) {
		return leapt
	}
	p.Half = draw(200)
	return p
}

// withKings has a king of each side on these squares, and the castlings that may be so.
func withKings(p api.Position, at [2]int) api.Position {
	p.Squares[at[0]], p.Squares[at[1]] = Piece('K'), Piece('k')
	for _, has := range []api.Castle{1, 2, 4, 8} {
		if q := Castle(p, p.Castle+has); board.Right(q) {
			p = q
		}
	}
	return p
}

// behindLeap has a pawn of the other side go two ranks on its file, with pawns of the side that moves beside it.
func behindLeap(p api.Position, file int) api.Position {
	on := 8 - 16*int(p.Side)
	p.Over = 40 - 24*int(p.Side) + file
	p.Squares[p.Over], p.Squares[p.Over+on] = api.Piece{}, api.Piece{}
	p.Squares[p.Over-on] = api.Piece{Kind: api.Pawn, Side: 1 - p.Side}
	if file > 0 {
		p.Squares[p.Over-on-1] = api.Piece{Kind: api.Pawn, Side: p.Side}
	}
	if file < 7 {
		p.Squares[p.Over-on+1] = api.Piece{Kind: api.Pawn, Side: p.Side}
	}
	return p
}
