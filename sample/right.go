package sample

import "zugzwang/api"

// Bare is a bare board.
func Bare() api.Position {
	return api.Position{Over: api.NoSquare, Full: 1}
}

// Begin is the position at the begin.
func Begin() api.Position {
	p := Board("rnbqkbnr", "pppppppp", "........", "........", "........", "........", "PPPPPPPP", "RNBQKBNR")
	p.Castle = 15
	return p
}

// Midst has both sides ready to castle either way.
func Midst() api.Position {
	p := Board(
		"r...k..r",
		"pppq.ppp",
		"..npbn..",
		"..b.p...",
		"..B.P...",
		"..NPBN..",
		"PPPQ.PPP",
		"R...K..R")
	p.Castle, p.Half, p.Full = 15, 6, 9
	return p
}

// WhiteLeapt is a position of black's move: white's pawn on e4 went over e3, and black's on d4 and f4 may take it.
func WhiteLeapt() api.Position {
	p := Board("....k...", "pp...ppp", "........", "........", "...pPp..", "........", "PPP..PPP", "....K...")
	p.Side, p.Over, p.Full = api.Black, Square("e3"), 12
	return p
}

// BlackLeapt is a position of white's move: black's pawn on d5 went over d6, and white's on c5 and e5 may take it.
func BlackLeapt() api.Position {
	p := Board("....k...", "ppp..ppp", "........", "..PpP...", "........", "........", "PP...PPP", "....K...")
	p.Over, p.Full = Square("d6"), 13
	return p
}

// Late has pawns of both sides ahead of their last rank.
func Late() api.Position {
	p := Board("..n.r..k", "...P....", "........", "........", "........", "........", "....p...", "K..R.N..")
	p.Half, p.Full = 40, 60
	return p
}

// Right are right positions, unlike each other.
func Right() []api.Position {
	return []api.Position{Begin(), Midst(), WhiteLeapt(), BlackLeapt(), Late()}
}
