package fen

import (
	"zugzwang/api"
	"zugzwang/board"
	"zugzwang/square"
)

// mostDigits is how many a number may have.
const mostDigits = 6

// reader has a text, and the position that it has read of it so far. It reads a byte just if that can stand there, so that it stays at the first one that can not.
type reader struct {
	place
	position api.Position
	pieces   map[byte]api.Piece
}

func readerOf(s string) *reader {
	return &reader{place: place{text: s}, position: board.Empty(), pieces: pieces()}
}

// read says whether the text has the shape of a position's.
func (r *reader) read() bool {
	return r.ranks() && r.skip(blank) &&
		r.side() && r.skip(blank) &&
		r.castlings() && r.skip(blank) &&
		r.over() && r.skip(blank) &&
		r.half() && r.skip(blank) &&
		r.full() && r.ends()
}

func (r *reader) ranks() bool {
	for rank := edge - 1; rank > 0; rank-- {
		if !r.rank(rank) || !r.skip(nextRank) {
			return false
		}
	}
	return r.rank(0)
}

// rank reads pieces, ahead of each a gap, or none, until it is full.
func (r *reader) rank(rank int) bool {
	for file := r.gap(edge); file < edge; file += r.gap(edge - file) {
		x, is := r.piece()
		if !is {
			return false
		}
		r.position.Squares[square.At(file, rank)] = x
		file++
	}
	return true
}

// gap reads how many squares on which nothing stands are next to each other, at most so many.
func (r *reader) gap(most int) int {
	n, is := r.one([]byte(numbers[:most])...)
	if !is {
		return 0
	}
	return n + 1
}

func (r *reader) piece() (api.Piece, bool) {
	x, is := r.pieces[r.next()]
	if is {
		r.at++
	}
	return x, is
}

func (r *reader) side() bool {
	n, is := r.one([]byte(movers)...)
	r.position.Side = api.Side(n)
	return is
}

func (r *reader) castlings() bool {
	if r.skip(nothing) {
		return true
	}
	for _, c := range castlings {
		if r.skip(c.letter) {
			r.position.Castle |= c.castle
		}
	}
	return r.position.Castle != 0
}

func (r *reader) over() bool {
	if r.skip(nothing) {
		return true
	}
	file, isFile := r.one([]byte(files)...)
	if !isFile {
		return false
	}
	rank, isRank := r.one([]byte(numbers)...)
	r.position.Over = square.At(file, rank)
	return isRank
}

func (r *reader) half() (is bool) {
	r.position.Half, is = r.number()
	return is
}

func (r *reader) full() (is bool) {
	r.position.Full, is = r.number()
	return is
}

// number reads one. A nought is one by itself: no digit can stand behind it.
func (r *reader) number() (int, bool) {
	if r.skip(nought) {
		return 0, true
	}
	n, from := 0, r.at
	for r.at-from < mostDigits {
		digit, is := r.one([]byte(digits)...)
		if !is {
			break
		}
		n = 10*n + digit
	}
	return n, r.at > from
}
