package sample

import "zugzwang/api"

// Counted is a position of which it is known how many rows of legal moves it has: of one move, of two, and so on.
type Counted struct {
	Position api.Position
	Rows     []int
}

// Known are positions that all who write chess programs count by.
func Known() []Counted {
	return []Counted{
		{Begin(), []int{20, 400, 8902}},
		{Castle(Board("r...k..r", "p.ppqpb.", "bn..pnp.", "...PN...", ".p..P...", "..N..Q.p", "PPPBBPPP", "R...K..R"), 15), []int{48, 2039, 97862}},
		{Board("........", "..p.....", "...p....", "KP.....r", ".R...p.k", "........", "....P.P.", "........"), []int{14, 191, 2812, 43238}},
		{Castle(Board("r...k..r", "Pppp.ppp", ".b...nbN", "nP......", "BBP.P...", "q....N..", "Pp.P..PP", "R..Q.RK."), 12), []int{6, 264, 9467}},
		{Castle(Board("rnbq.k.r", "pp.Pbppp", "..p.....", "........", "..B.....", "........", "PPP.NnPP", "RNBQK..R"), 3), []int{44, 1486, 62379}},
		{Board("r....rk.", ".pp.qppp", "p.np.n..", "..b.p.B.", "..B.P.b.", "P.NP.N..", ".PP.QPPP", "R....RK."), []int{46, 2079, 89890}},
	}
}
