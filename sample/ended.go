package sample

import "zugzwang/api"

// Named is a position, and what it is.
type Named struct {
	What     string
	Position api.Position
}

// Mates are positions in which the side that moves is mated.
func Mates() []Named {
	return []Named{
		{"by a queen beside the king", Black(Drawn("f6K g7Q g8k"))},
		{"by a queen beside the king, at an edge", Black(Drawn("e6K e7Q e8k"))},
		{"by a queen beside the king, at another edge", Black(Drawn("c5K b5Q a5k"))},
		{"by a queen beside the king, in a corner", Black(Drawn("g6K g7Q h8k"))},
		{"by a queen from afar, in the middle", Black(Drawn("a1K e5k e3Q d1R f1R"))},
		{"by a rook on the last rank", Black(Drawn("g1K e8R g8k f7p g7p h7p"))},
		{"by a rook on the last rank, the kings face to face", Black(Drawn("e6K a8R e8k"))},
		{"by a rook on the last file", Black(Drawn("c4K a1R a4k"))},
		{"by two rooks, in a corner", Drawn("a1K h8k h1r h2r")},
		{"by a rook that a pinned knight may not take", Black(Drawn("a1K e8R b2B h8k g7n h7p"))},
		{"by a knight, of a shut in king in a corner", Black(Drawn("a1K f7N h8k g8r g7p h7p"))},
		{"by a knight, of a shut in king at an edge", Black(Drawn("a1K c7N e8k d8r f8b d7p e7n f7p"))},
		{"by a knight that a pinned pawn may not take", Castle(Counts(Black(Board("r.bqkb.r", "pp.npppp", "..pN.n..", "........", "...P....", "........", "PPP.QPPP", "R.B.KBNR")), 4, 6), 15)},
		{"by a rook and a knight at once", Black(Drawn("a1K e1R f6N e8k d8q f8b d7p f7p g7p"))},
		{"by a bishop, in a corner", Black(Drawn("g6K e5B e6B h8k"))},
		{"by a bishop that a knight helps", Black(Drawn("g6K h6N f6B h8k"))},
		{"by a pawn, in a corner", Drawn("a1K b2p b3k h7b")},
		{"by a pawn, at an edge", Drawn("h4K g5p f5k e5b h8r")},
		{"by a pawn, in the middle", Black(Drawn("d5k e4P d3K a6R d7N"))},
		{"by a pawn that went over a square", Over(Black(Drawn("d5k e4P d3K a6R d7N")), "e3")},
		{"with a castling short at hand, but for the check", Castle(Drawn("e1K h1R e2q e8r a8k"), 1)},
		{"with a castling long at hand, but for the check", Castle(Drawn("e1K a1R e2q e8r h8k"), 2)},
		{"with nearly all pieces", Castle(Counts(Board("rnb.kbnr", "pppp.ppp", "........", "....p...", "......Pq", ".....P..", "PPPPP..P", "RNBQKBNR"), 1, 3), 15)},
		{"early, by a queen", Castle(Counts(Black(Board("r.bqkb.r", "pppp.Qpp", "..n..n..", "....p...", "..B.P...", "........", "PPPP.PPP", "RNB.K.NR")), 0, 4), 15)},
	}
}

// Stalemates are positions in which the side that moves has no legal move, and is not in check.
func Stalemates() []Named {
	return []Named{
		{"by a queen, in a corner", Black(Drawn("f6K f7Q h8k"))},
		{"by a queen from afar", Black(Drawn("h1K b6Q a8k"))},
		{"by a rook", Drawn("a1K b2r b3k")},
		{"by a pawn, at an edge", Black(Drawn("e6K e7P e8k"))},
		{"by a bishop", Black(Drawn("g6K e6B h8k"))},
		{"by a knight", Black(Drawn("g6K e7N h8k"))},
		{"in the middle", Black(Drawn("h1K e5k d1R f1R a4R a6R"))},
		{"with a pawn that is blocked", Drawn("a1K b3q h8k g4P g5p")},
		{"with pawns that are blocked", Drawn("a1K b3q h8k c4P c5p e4P e5p g4P g5p")},
		{"with a bishop that is pinned", Black(Drawn("a6K h8R b8b a8k"))},
		{"with a knight that is pinned", Black(Drawn("b6K h8R b8n a8k"))},
		{"with a rook that is pinned", Black(Drawn("h1B g1B g3B e1K b7r a8k"))},
		{"with a pawn that is pinned", Black(Drawn("e1K h6R h7R h8R a7k b7p"))},
		{"with a bishop and a knight that are pinned", Black(Drawn("c7K a1R h8R a8k b8n a7b"))},
		{"with a pawn that may not take over, as both would leave the king's rank", Over(Black(Drawn("a4k f4p f3P g4P h4R b8R c2N c6N h1K")), "g3")},
		{"with many pieces", Castle(Counts(Black(Board(".....bnr", "....p.pq", "....Qpkr", ".......p", ".......P", "....P...", "PPPP.PP.", "RNB.KBNR")), 2, 10), 3)},
		{"with all pieces", Castle(Counts(Board("rn..k.nr", "pp....pp", "...p....", "q.pP....", "P.P..p.b", ".b..pPRP", ".P.NP.PQ", "..B.KBNR"), 0, 13), 13)},
	}
}

// TurnedResult is a result with the other side as winner.
func TurnedResult(r api.Result) api.Result {
	switch r {
	case api.WhiteWins:
		return api.BlackWins
	case api.BlackWins:
		return api.WhiteWins
	}
	return r
}
