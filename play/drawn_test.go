package play_test

import (
	"math"
	"strings"

	"zugzwang/api"
)

// letters are the kinds from 1 on, white's in capitals.
const letters = "PNBRQKpnbrqk"

// odd stands in drawings for what is no piece, and not none; so does blackNone, whose Kind is none's.
var (
	odd       = api.Piece{Kind: 7, Side: 0}
	blackNone = api.Piece{Kind: 0, Side: 1}
)

func piece(letter byte) api.Piece {
	switch letter {
	case '.':
		return api.Piece{}
	case '?':
		return odd
	case '!':
		return blackNone
	}
	n := strings.IndexByte(letters, letter)
	return api.Piece{Kind: api.Kind(n%6 + 1), Side: api.Side(n / 6)}
}

// sq is the square of a name; that of no name is none.
func sq(name string) int {
	if name == "" {
		return -1
	}
	return int(name[0]-'a') + 8*int(name[1]-'1')
}

// mv is a move by names: e2e4, or with what a pawn becomes, e7e8Q.
func mv(text string) api.Move {
	m := api.Move{From: sq(text[:2]), To: sq(text[2:4])}
	if len(text) > 4 {
		m.Becomes = piece(text[4]).Kind
	}
	return m
}

func row(texts string) []api.Move {
	var all []api.Move
	for _, text := range strings.Fields(texts) {
		all = append(all, mv(text))
	}
	return all
}

// set puts things on squares, by names with letters: e2. e4P.
func set(p api.Position, puts string) api.Position {
	for _, put := range strings.Fields(puts) {
		p.Squares[sq(put[:2])] = piece(put[2])
	}
	return p
}

func bare() api.Position {
	return api.Position{Over: -1, Full: 1}
}

// drawn is a position whose rows are given from rank 8 down, as one sees a board; white moves.
func drawn(rows ...string) api.Position {
	p := bare()
	for i, row := range rows {
		for file := range 8 {
			p.Squares[8*(7-i)+file] = piece(row[file])
		}
	}
	return p
}

func begin() api.Position {
	p := drawn("rnbqkbnr", "pppppppp", "........", "........", "........", "........", "PPPPPPPP", "RNBQKBNR")
	p.Castle = 15
	return p
}

// midst has both sides ready to castle either way.
func midst() api.Position {
	p := drawn(
		"r...k..r",
		"pppq.ppp",
		"..npbn..",
		"..b.p...",
		"..B.P...",
		"..NPBN..",
		"PPPQ.PPP",
		"R...K..R")
	p.Castle, p.Half, p.Full = 15, 6, 9
	return p
}

// whiteLeapt is a position of black's move: white's pawn on e4 went over e3, and black's on d4 and f4 may take it.
func whiteLeapt() api.Position {
	p := drawn("....k...", "pp...ppp", "........", "........", "...pPp..", "........", "PPP..PPP", "....K...")
	p.Side, p.Over, p.Full = api.Black, sq("e3"), 12
	return p
}

// blackLeapt is a position of white's move: black's pawn on d5 went over d6, and white's on c5 and e5 may take it.
func blackLeapt() api.Position {
	p := drawn("....k...", "ppp..ppp", "........", "..PpP...", "........", "........", "PP...PPP", "....K...")
	p.Over, p.Full = sq("d6"), 13
	return p
}

// late has pawns of both sides ahead of their last rank.
func late() api.Position {
	p := drawn("..n.r..k", "...P....", "........", "........", "........", "........", "....p...", "K..R.N..")
	p.Half, p.Full = 40, 60
	return p
}

func rightOnes() []api.Position {
	return []api.Position{begin(), midst(), whiteLeapt(), blackLeapt(), late()}
}

func blackMoves(p api.Position) api.Position {
	p.Side = api.Black
	return p
}

// behind is what a move leaves of a position: other things on squares, and the rest as told.
func behind(p api.Position, puts, over string, castle api.Castle, half, full int) api.Position {
	q := set(p, puts)
	q.Side, q.Over, q.Castle, q.Half, q.Full = 1-p.Side, sq(over), castle, half, full
	return q
}

// noSquares are numbers below and above the board's.
func noSquares() []int {
	return []int{-1, -2, -8, -63, -64, -65, 64, 65, 71, 72, 127, 128, 256, 1 << 32, 1<<32 + 28, -1 << 32, math.MaxInt, math.MinInt}
}

func wrongSides() []api.Side {
	return []api.Side{-1, 2, 3, -2, 4, 256, 257, 1 << 32, 1<<32 + 1, math.MaxInt, math.MinInt}
}

// wrongKinds are those of no piece, but none's.
func wrongKinds() []api.Kind {
	return []api.Kind{-1, -6, 7, 8, 12, 255, 256, 257, 1 << 32, 1<<32 + 5, math.MaxInt, math.MinInt}
}

func wrongCastles() []api.Castle {
	return []api.Castle{-1, 16, -16, -15, 17, 31, 32, 255, 256, 271, 1 << 32, 1<<32 + 15, math.MaxInt, math.MinInt, math.MinInt + 15}
}

// wrongPieces are no pieces, and not none.
func wrongPieces() []api.Piece {
	all := []api.Piece{blackNone}
	for _, k := range wrongKinds() {
		all = append(all, api.Piece{Kind: k}, api.Piece{Kind: k, Side: api.Black})
	}
	for _, s := range wrongSides() {
		for k := api.NoKind; k <= 7; k++ {
			all = append(all, api.Piece{Kind: k, Side: s})
		}
	}
	return all
}

func rightPieces() []api.Piece {
	var all []api.Piece
	for i := range letters {
		all = append(all, piece(letters[i]))
	}
	return all
}
