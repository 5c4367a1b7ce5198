package fen

import "zugzwang/api"

const (
	blank    = ' '
	nextRank = '/'
	nothing  = '-'
	nought   = '0'
)

const (
	movers  = "wb" // in the order of api's sides
	files   = "abcdefgh"
	numbers = "12345678" // of ranks, and of squares on which nothing stands
	digits  = "0123456789"
)

// edge is how many files there are, and ranks.
const edge = 8

// castling is one that may not yet be lost, and its letter.
type castling struct {
	letter byte
	castle api.Castle
}

// castlings are in the order of their letters in a text.
var castlings = [4]castling{
	{'K', api.WhiteShort},
	{'Q', api.WhiteLong},
	{'k', api.BlackShort},
	{'q', api.BlackLong},
}

func letters() map[api.Piece]byte {
	return map[api.Piece]byte{
		{Kind: api.Pawn, Side: api.White}:   'P',
		{Kind: api.Knight, Side: api.White}: 'N',
		{Kind: api.Bishop, Side: api.White}: 'B',
		{Kind: api.Rook, Side: api.White}:   'R',
		{Kind: api.Queen, Side: api.White}:  'Q',
		{Kind: api.King, Side: api.White}:   'K',
		{Kind: api.Pawn, Side: api.Black}:   'p',
		{Kind: api.Knight, Side: api.Black}: 'n',
		{Kind: api.Bishop, Side: api.Black}: 'b',
		{Kind: api.Rook, Side: api.Black}:   'r',
		{Kind: api.Queen, Side: api.Black}:  'q',
		{Kind: api.King, Side: api.Black}:   'k',
	}
}

func pieces() map[byte]api.Piece {
	all := map[byte]api.Piece{}
	for x, letter := range letters() {
		all[letter] = x
	}
	return all
}
