package moves

import (
	"iter"
	"slices"

	"zugzwang/api"
	"zugzwang/attack"
	"zugzwang/board"
	"zugzwang/square"
)

// Ranks as the side that moves counts them, from its own officers' on.
const (
	pawnsBegin = 1
	lastRank   = 7
)

// mover finds moves in the position that it has.
type mover struct {
	api.Position
}

// movers goes through the squares on which pieces stand that may move, rising.
func (m *mover) movers() iter.Seq[int] {
	return func(yield func(int) bool) {
		for s := range m.Squares {
			if m.mayMove(s) && !yield(s) {
				return
			}
		}
	}
}

// mayMove says whether a piece that may be, of the side that moves, stands on a square.
func (m *mover) mayMove(s int) bool {
	x := m.Squares[s]
	return x.Side == m.Side && isSide(x.Side) && x.Kind >= api.Pawn && x.Kind <= api.King
}

func isSide(s api.Side) bool {
	return s == api.White || s == api.Black
}

// stands says whether something does, be it a piece or not.
func (m *mover) stands(s int) bool {
	return m.Squares[s] != api.Piece{}
}

func (m *mover) isOwn(s int) bool {
	return m.stands(s) && m.Squares[s].Side == m.Side
}

func (m *mover) isOthers(s int) bool {
	return m.stands(s) && m.Squares[s].Side == board.Other(m.Side)
}

// moves are those of the piece on a square, which may move.
func (m *mover) moves(s int) []api.Move {
	to := m.goals(s)
	slices.Sort(to)
	return m.put(s, to...)
}

// put puts squares into moves of the piece on a square, one each, but four of a pawn that comes to the end.
func (m *mover) put(from int, squares ...int) []api.Move {
	var all []api.Move
	for _, to := range squares {
		least, most := m.becomes(from, to)
		for kind := least; kind <= most; kind++ {
			all = append(all, api.Move{From: from, To: to, Becomes: kind})
		}
	}
	return all
}

// becomes are the least and the most of the kinds that a move's piece may become.
func (m *mover) becomes(from, to int) (least, most api.Kind) {
	if m.Squares[from].Kind == api.Pawn && m.rank(to) == lastRank {
		return api.Knight, api.Queen
	}
	return api.NoKind, api.NoKind
}

// rank is a square's, as the side that moves counts it.
func (m *mover) rank(s int) int {
	if m.Side == api.White {
		return square.Rank(s)
	}
	return lastRank - square.Rank(s)
}

// goals are the squares, each once, to which the piece on a square may go.
func (m *mover) goals(s int) []int {
	switch m.Squares[s].Kind {
	case api.Pawn:
		return append(m.ahead(s), m.slanting(s)...)
	case api.King:
		return append(m.free(s), m.castles(s)...)
	}
	return m.free(s)
}

// free are the squares that the piece on a square attacks, without those of its own side.
func (m *mover) free(s int) []int {
	return slices.DeleteFunc(attack.From(m.Position, s), m.isOwn)
}

// ahead are the squares to which a pawn goes along its file.
func (m *mover) ahead(s int) []int {
	on, far := 1, 1
	if m.Side == api.Black {
		on = -1
	}
	if m.rank(s) == pawnsBegin {
		far = 2
	}
	var to []int
	for at := square.Step(s, 0, on); len(to) < far && square.Is(at) && !m.stands(at); at = square.Step(at, 0, on) {
		to = append(to, at)
	}
	return to
}

// slanting are the squares to which a pawn goes on another file.
func (m *mover) slanting(s int) []int {
	var to []int
	for _, at := range attack.From(m.Position, s) {
		if m.isOthers(at) || at == m.Over && !m.stands(at) {
			to = append(to, at)
		}
	}
	return to
}
