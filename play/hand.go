package play

import (
	"zugzwang/api"
	"zugzwang/board"
	"zugzwang/square"
)

// Ranks as the side that moves counts them, from its own officers' on.
const (
	pawnsBegin = 1
	leapsEnd   = 3
	lastRank   = 7
)

// hand makes moves in the position that it has.
type hand struct {
	api.Position
}

// handOf leaves no castling where Castle is no sum of some, so that none can be made, nor is left behind a move.
func handOf(p api.Position) hand {
	if p.Castle < 0 || p.Castle > allCastlings {
		p.Castle = 0
	}
	return hand{p}
}

// fault is the error of a move that can not be made.
func (h *hand) fault(m api.Move) api.Errno {
	if !square.Is(m.From) || !square.Is(m.To) || m.From == m.To {
		return api.ErrRange
	}
	if !h.owns(m.From) || !h.mayBecome(m) {
		return api.ErrMove
	}
	return api.OK
}

// owns says whether a piece of the side that moves stands on a square.
func (h *hand) owns(s int) bool {
	x := h.Squares[s]
	return isSide(h.Side) && x.Side == h.Side && x.Kind >= api.Pawn && x.Kind <= api.King
}

func isSide(s api.Side) bool {
	return s == api.White || s == api.Black
}

func (h *hand) mayBecome(m api.Move) bool {
	if h.goesPawn(m) && h.rank(m.To) == lastRank {
		return m.Becomes >= api.Knight && m.Becomes <= api.Queen
	}
	return m.Becomes == api.NoKind
}

func (h *hand) goesPawn(m api.Move) bool {
	return h.Squares[m.From].Kind == api.Pawn
}

// rank is a square's, as the side that moves counts it.
func (h *hand) rank(s int) int {
	if h.Side == api.White {
		return square.Rank(s)
	}
	return lastRank - square.Rank(s)
}

// stands says whether something does, be it a piece or not.
func (h *hand) stands(s int) bool {
	return h.Squares[s] != api.Piece{}
}

// takes is where a move that can be made takes something.
func (h *hand) takes(m api.Move) int {
	at := m.To
	if h.takesOver(m) {
		at = square.At(square.File(m.To), square.Rank(m.From))
	}
	if !h.stands(at) {
		return api.NoSquare
	}
	return at
}

func (h *hand) takesOver(m api.Move) bool {
	return h.goesPawn(m) && !sameFile(m) && m.To == h.Over && !h.stands(m.To)
}

func (h *hand) isLongStep(m api.Move) bool {
	return h.goesPawn(m) && sameFile(m) && h.rank(m.From) == pawnsBegin && h.rank(m.To) == leapsEnd
}

func sameFile(m api.Move) bool {
	return square.File(m.From) == square.File(m.To)
}

// castling is the one that a move is, if it is one. Whether the rook waits on its corner is not asked.
func (h *hand) castling(m api.Move) (castling, bool) {
	for _, k := range castlings {
		king := api.Piece{Kind: api.King, Side: k.side}
		if h.Castle&k.castle != 0 && m.From == k.from && m.To == k.to && h.Squares[m.From] == king {
			return k, true
		}
	}
	return castling{}, false
}

// between is the square in the middle of a castling or a long step.
func between(m api.Move) int {
	return (m.From + m.To) / 2
}

// carryOut makes a move that can be made. What it is hangs on how all stood ahead of it: that is asked before anything is put.
func (h *hand) carryOut(m api.Move) {
	taken, over := h.takes(m), api.NoSquare
	if h.isLongStep(m) {
		over = between(m)
	}
	k, castles := h.castling(m)

	h.count(h.goesPawn(m) || taken != api.NoSquare)
	h.put(m, taken)
	if castles {
		h.putRook(m, k)
	}
	h.loseCastlings(m)
	h.Over = over
	h.Side = board.Other(h.Side)
}

// count counts a move of the side that still moves.
func (h *hand) count(beginsAnew bool) {
	if beginsAnew {
		h.Half = 0
	} else {
		h.Half = oneMore(h.Half, api.MaxHalf)
	}
	if h.Side == api.Black {
		h.Full = oneMore(h.Full, api.MaxFull)
	}
}

// oneMore asks ahead of counting, as the greatest number there is has none behind it.
func oneMore(n, most int) int {
	if n >= most {
		return most
	}
	return n + 1
}

func (h *hand) put(m api.Move, taken int) {
	x := h.Squares[m.From]
	if m.Becomes != api.NoKind {
		x.Kind = m.Becomes
	}
	h.Squares[m.From] = api.Piece{}
	if taken != api.NoSquare {
		h.Squares[taken] = api.Piece{}
	}
	h.Squares[m.To] = x
}

func (h *hand) putRook(m api.Move, k castling) {
	h.Squares[k.corner] = api.Piece{}
	h.Squares[between(m)] = api.Piece{Kind: api.Rook, Side: k.side}
}

func (h *hand) loseCastlings(m api.Move) {
	lost := losses()
	h.Castle &^= lost[m.From] | lost[m.To]
}
