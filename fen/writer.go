package fen

import (
	"strconv"

	"zugzwang/api"
	"zugzwang/square"
)

// writer has a position, and what is written of it so far.
type writer struct {
	position api.Position
	text     []byte
	letters  map[api.Piece]byte
}

func writerOf(p api.Position) *writer {
	return &writer{position: p, letters: letters()}
}

func (w *writer) write() {
	w.ranks()
	w.put(blank, movers[w.position.Side], blank)
	w.castlings()
	w.put(blank)
	w.over()
	w.put(blank)
	w.number(w.position.Half)
	w.put(blank)
	w.number(w.position.Full)
}

func (w *writer) put(letters ...byte) {
	w.text = append(w.text, letters...)
}

func (w *writer) number(n int) {
	w.text = strconv.AppendInt(w.text, int64(n), 10)
}

func (w *writer) ranks() {
	for rank := edge - 1; rank > 0; rank-- {
		w.rank(rank)
		w.put(nextRank)
	}
	w.rank(0)
}

func (w *writer) rank(rank int) {
	gap := 0
	for file := range edge {
		x := w.position.Squares[square.At(file, rank)]
		if x == (api.Piece{}) {
			gap++
			continue
		}
		w.gap(gap)
		w.put(w.letters[x])
		gap = 0
	}
	w.gap(gap)
}

func (w *writer) gap(squares int) {
	if squares > 0 {
		w.number(squares)
	}
}

func (w *writer) castlings() {
	if w.position.Castle == 0 {
		w.put(nothing)
	}
	for _, c := range castlings {
		if w.position.Castle&c.castle != 0 {
			w.put(c.letter)
		}
	}
}

func (w *writer) over() {
	if w.position.Over == api.NoSquare {
		w.put(nothing)
	} else {
		w.put([]byte(square.Name(w.position.Over))...)
	}
}
