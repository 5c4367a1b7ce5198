// Package sample is what the layers' tests have in common: positions that are drawn with letters, moves by names of squares, and values that may not be.
package sample

import (
	"strings"

	"zugzwang/api"
)

// letters are the kinds from 1 on, white's in capitals.
const letters = "PNBRQKpnbrqk"

// Piece is that of a letter; of a dot none. Two are no pieces, and not none: a question mark's is of a Kind of no piece, an exclamation mark's has black's Side and no Kind.
func Piece(letter byte) api.Piece {
	switch letter {
	case '.':
		return api.Piece{}
	case '?':
		return api.Piece{Kind: api.King + 1, Side: api.White}
	case '!':
		return api.Piece{Kind: api.NoKind, Side: api.Black}
	}
	n := strings.IndexByte(letters, letter)
	return api.Piece{Kind: api.Kind(n%6 + 1), Side: api.Side(n / 6)}
}

// Pieces are all that may be.
func Pieces() []api.Piece {
	var all []api.Piece
	for i := range len(letters) {
		all = append(all, Piece(letters[i]))
	}
	return all
}

// Square is that of a name; that of no name is none.
func Square(name string) int {
	if name == "" {
		return api.NoSquare
	}
	return int(name[0]-'a') + 8*int(name[1]-'1')
}

// Move is one by names: e2e4, or with what a pawn becomes, e7e8Q.
func Move(text string) api.Move {
	m := api.Move{From: Square(text[:2]), To: Square(text[2:4])}
	if len(text) > 4 {
		m.Becomes = Piece(text[4]).Kind
	}
	return m
}

// Moves are those of texts with blanks between.
func Moves(texts string) []api.Move {
	var all []api.Move
	for _, text := range strings.Fields(texts) {
		all = append(all, Move(text))
	}
	return all
}

// Set puts things on squares, by names with letters: e2. e4P.
func Set(p api.Position, puts string) api.Position {
	for _, put := range strings.Fields(puts) {
		p.Squares[Square(put[:2])] = Piece(put[2])
	}
	return p
}

// Black is a position in which black moves.
func Black(p api.Position) api.Position {
	p.Side = api.Black
	return p
}

// Drawn is a position of white's move with things on a bare board, by names of squares with letters.
func Drawn(puts string) api.Position {
	return Set(Bare(), puts)
}

// Castle is a position with these castlings.
func Castle(p api.Position, c api.Castle) api.Position {
	p.Castle = c
	return p
}

// Over is a position in which a pawn went over a square, by its name.
func Over(p api.Position, name string) api.Position {
	p.Over = Square(name)
	return p
}

// Counts is a position with these counts of moves.
func Counts(p api.Position, half, full int) api.Position {
	p.Half, p.Full = half, full
	return p
}

// Board is a position whose rows are given from rank 8 down, as one sees a board; white moves.
func Board(rows ...string) api.Position {
	p := Bare()
	for i, row := range rows {
		for file := range 8 {
			p.Squares[8*(7-i)+file] = Piece(row[file])
		}
	}
	return p
}
