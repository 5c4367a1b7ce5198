package game_test

import (
	"slices"
	"testing"

	"zugzwang/api"
	"zugzwang/board"
	"zugzwang/game"
	"zugzwang/legal"
	"zugzwang/sample"
)

// look is all that a game tells.
type look struct {
	now              api.Position
	moves            []api.Move
	result           api.Result
	reason           api.Reason
	threefold, fifty bool
}

func lookAt(g *game.Game) look {
	l := look{now: g.Now(), moves: g.Moves(), threefold: g.May(api.Threefold), fifty: g.May(api.Fifty)}
	l.result, l.reason = g.Result()
	return l
}

// tells asks all that a game tells, and whether its position may be played on.
func tells(t *testing.T, what string, g *game.Game, want look) {
	t.Helper()
	got := lookAt(g)
	if got.now != want.now || got.result != want.result || got.reason != want.reason || got.threefold != want.threefold || got.fifty != want.fifty {
		t.Errorf("%s: %+v, want %+v", what, got, want)
	}
	if !slices.Equal(got.moves, want.moves) {
		t.Errorf("%s: moves %v, want %v", what, got.moves, want.moves)
	}
	if !legal.Position(got.now) {
		t.Errorf("%s: %v may not be played on", what, got.now)
	}
}

// stands asks how a game stands.
func stands(t *testing.T, what string, g *game.Game, result api.Result, why api.Reason) {
	t.Helper()
	if r, w := g.Result(); r != result || w != why {
		t.Errorf("%s: %d, %d, want %d, %d", what, r, w, result, why)
	}
}

// answers asks what a call answered.
func answers(t *testing.T, what string, got, want api.Errno) {
	t.Helper()
	if got != want {
		t.Errorf("%s: %d, want %d", what, got, want)
	}
}

// from is a game from a position that may be played on.
func from(t *testing.T, p api.Position) *game.Game {
	t.Helper()
	g, errno := game.From(p)
	if errno != api.OK || g == nil {
		t.Fatalf("From: %v, %d, of %v", g, errno, p)
	}
	return g
}

// with is a game from a position, behind a row of moves.
func with(t *testing.T, p api.Position, row string) *game.Game {
	t.Helper()
	g := from(t, p)
	answers(t, row, g.Play(sample.Moves(row)...), api.OK)
	return g
}

// behind is the position behind a row of legal moves.
func behind(t *testing.T, p api.Position, row ...api.Move) api.Position {
	t.Helper()
	q, errno := legal.Play(p, row...)
	if errno != api.OK {
		t.Fatalf("%v: %d, of %v", row, errno, p)
	}
	return q
}

func turnedRow(l []api.Move) []api.Move {
	var all []api.Move
	for _, m := range l {
		all = append(all, sample.Turned(m))
	}
	return all
}

const (
	knights = " g1f3 g8f6 f3g1 f6g8"
	rooks   = " a1b1 a8b8 b1a1 b8a8"
)

func TestExample(t *testing.T) { // P14.2, P14.4
	g := game.New()
	answers(t, "the example", g.Play(api.Move{From: 13, To: 21}, api.Move{From: 52, To: 36}, api.Move{From: 14, To: 30}, api.Move{From: 59, To: 31}), api.OK)
	stands(t, "the example", g, api.BlackWins, api.Mate)
}

func TestNew(t *testing.T) { // P14.1
	g, other := game.New(), game.New()
	if g == nil || other == nil || g == other {
		t.Fatalf("New: %p, %p", g, other)
	}
	tells(t, "a new game", g, look{now: board.Start()})
	answers(t, "e2e4", g.Play(sample.Move("e2e4")), api.OK)
	tells(t, "the other one", other, look{now: board.Start()})
	tells(t, "one made later", game.New(), look{now: board.Start()})
}

func TestFrom(t *testing.T) { // P14.1
	starts := append(sample.Right(), sample.Drawn("e1K e8k a2P"))
	for _, c := range sample.Known() {
		starts = append(starts, c.Position)
	}
	for _, p := range starts {
		for _, q := range []api.Position{p, board.Turn(p), sample.Counts(p, p.Half, 77), sample.Counts(p, p.Half, api.MaxFull)} {
			tells(t, "a game from a position", from(t, q), look{now: q})
		}
		if p.Over == api.NoSquare {
			tells(t, "a game from a position with a Half", from(t, sample.Counts(p, 33, 44)), look{now: sample.Counts(p, 33, 44)})
		}
	}
}

// TestNoMoves has rows of none, in games that stand open and in one that has ended.
func TestNoMoves(t *testing.T) { // P14.2
	for _, none := range [][]api.Move{nil, {}} {
		g := game.New()
		answers(t, "of none", g.Play(none...), api.OK)
		tells(t, "of none", g, look{now: board.Start()})

		g = with(t, sample.Midst(), "e1g1")
		was := lookAt(g)
		answers(t, "of none, later", g.Play(none...), api.OK)
		tells(t, "of none, later", g, was)

		answers(t, "resigned", g.Stop(api.Resigned), api.OK)
		was = lookAt(g)
		answers(t, "of none, behind the end", g.Play(none...), api.OK)
		tells(t, "of none, behind the end", g, was)
	}
	answers(t, "of nothing", game.New().Play(), api.OK)
}

// rows are games whose moves end them with the last, or leave them open.
var rows = []struct {
	what   string
	p      api.Position
	row    string
	result api.Result
	reason api.Reason
}{
	{"no moves", board.Start(), "", api.Open, api.NoReason},
	{"one move", board.Start(), "e2e4", api.Open, api.NoReason},
	{"many moves", board.Start(), "e2e4 e7e5 g1f3 b8c6 f1b5 g8f6 e1g1 f6e4 d2d4 e4d6 b5c6 d7c6 d4e5 d6f5 d1d8 e8d8", api.Open, api.NoReason},
	{"castlings", sample.Midst(), "e1g1 e8c8 g1h1 c8b8", api.Open, api.NoReason},
	{"a pawn that takes over", sample.WhiteLeapt(), "d4e3 c2c4 e3e2 g2g4 h7h5 g4h5", api.Open, api.NoReason},
	{"pawns that become something", sample.Late(), "d7e8Q h8h7 e8h5 h7g7 f1g3 e2d1N", api.Open, api.NoReason},
	{"counts", sample.Counts(sample.Midst(), 30, 50), "a1b1 a8b8 b1a1 b8a8 a2a3 a8b8", api.Open, api.NoReason},
	{"the greatest Full", sample.Counts(sample.Midst(), 30, api.MaxFull), "a1b1 a8b8 b1a1 b8a8 a2a3 a8b8", api.Open, api.NoReason},
	{"mate of white", board.Start(), "f2f3 e7e5 g2g4 d8h4", api.BlackWins, api.Mate},
	{"mate of black", board.Start(), "e2e4 e7e5 d1h5 b8c6 f1c4 g8f6 h5f7", api.WhiteWins, api.Mate},
	{"mate by what a pawn becomes", sample.Drawn("g6K b7P h8k"), "b7b8Q", api.WhiteWins, api.Mate},
	{"mate by a castling", sample.Castle(sample.Drawn("e1K h1R e2R g4R f8k h2P"), 1), "e1g1", api.WhiteWins, api.Mate},
	{"stalemate", board.Start(), "e2e3 a7a5 d1h5 a8a6 h5a5 h7h5 h2h4 a6h6 a5c7 f7f6 c7d7 e8f7 d7b7 d8d3 b7b8 d3h7 b8c8 f7g6 c8e6", api.Drawn, api.Stalemate},
	{"stalemate by what a pawn becomes", sample.Drawn("c6K b7P c4N a6k"), "b7b8Q", api.Drawn, api.Stalemate},
	{"dead by a rook that is taken", sample.Drawn("a1K h8k a2r"), "a1a2", api.Drawn, api.Dead},
	{"dead by a queen that is taken, later", sample.Drawn("e3K h8k g2q"), "e3f4 g2f3 f4f3", api.Drawn, api.Dead},
	{"dead by a pawn that is taken, a knight is left", sample.Drawn("a1K h8k a2p c7N"), "a1a2", api.Drawn, api.Dead},
	{"dead by a pawn that is taken, bishops of one shade are left", sample.Drawn("a1K h8k a2p c1B f8b"), "a1a2", api.Drawn, api.Dead},
	{"dead by a knight that is taken, another one is left", sample.Drawn("a1K h8k a2n c7n"), "a1a2", api.Drawn, api.Dead},
	{"dead by a bishop that is taken, one is left", sample.Drawn("a1K h8k a2b f8b"), "a1a2", api.Drawn, api.Dead},
	{"dead by a pawn that is taken, which took one over", sample.Drawn("e5K g5P h8k f7p h2b"), "e5e4 f7f5 g5f6 h8g8 f6f7 g8f7", api.Drawn, api.Dead},
	{"dead by a pawn that becomes a knight", sample.Drawn("a1K e7P h3k"), "e7e8N", api.Drawn, api.Dead},
	{"dead by a pawn that becomes a bishop", sample.Drawn("a1K e7P h3k"), "e7e8B", api.Drawn, api.Dead},
	{"not dead by a pawn that becomes a rook", sample.Drawn("a1K e7P h3k"), "e7e8R", api.Open, api.NoReason},
	{"not dead, two knights are left", sample.Drawn("a1K h8k a2p c7n c6n"), "a1a2", api.Open, api.NoReason},
	{"not dead, bishops of two shades are left", sample.Drawn("a1K h8k a2p c1B c8b"), "a1a2", api.Open, api.NoReason},
	{"three times", board.Start(), knights + knights, api.Open, api.NoReason},
	{"four times, and more", board.Start(), knights + knights + knights + " g1f3 g8f6 f3g1", api.Open, api.NoReason},
	{"five times", board.Start(), knights + knights + knights + knights, api.Drawn, api.Fivefold},
	{"five times, not the first position", board.Start(), "b1c3 b8c6 a1b1 a8b8" + knights + knights + knights + knights, api.Drawn, api.Fivefold},
	{"five times, with other moves between", sample.Castle(sample.Midst(), 0), rooks + " a1c1 a8c8 c1a1 c8a8" + rooks + " h1g1 h8g8 g1h1 g8h8", api.Drawn, api.Fivefold},
	{"five times, but lost castlings ahead of it", sample.Midst(), rooks + rooks + rooks + rooks, api.Open, api.NoReason},
	{"five times, behind the castlings that were lost", sample.Midst(), rooks + rooks + rooks + rooks + " a1b1", api.Open, api.NoReason},
	{"five times, and one more", sample.Midst(), rooks + rooks + rooks + rooks + " a1b1 a8b8", api.Drawn, api.Fivefold},
	{"five times, but once a pawn could be taken over", sample.BlackLeapt(), "e1d1 e8d8 d1e1 d8e8 e1d1 e8d8 d1e1 d8e8 e1d1 e8d8 d1e1 d8e8 e1d1 e8d8 d1e1 d8e8", api.Open, api.NoReason},
	{"fifty moves", sample.Counts(sample.Castle(sample.Midst(), 0), 96, 60), rooks, api.Open, api.NoReason},
	{"nearly seventy-five", sample.Counts(sample.Castle(sample.Midst(), 0), 145, 90), rooks, api.Open, api.NoReason},
	{"seventy-five", sample.Counts(sample.Castle(sample.Midst(), 0), 146, 90), rooks, api.Drawn, api.Seventy},
	{"seventy-five behind the other side's move", sample.Counts(sample.Castle(sample.Midst(), 0), 147, 90), "a1b1 a8b8 b1a1", api.Drawn, api.Seventy},
	{"not seventy-five, by a pawn", sample.Counts(sample.Castle(sample.Midst(), 0), 147, 90), "a1b1 a8b8 a2a3 b8a8", api.Open, api.NoReason},
	{"not seventy-five, by a taking", sample.Counts(sample.Castle(sample.Midst(), 0), 149, 90), "e3c5", api.Open, api.NoReason},
	{"mate at seventy-five", sample.Counts(sample.Drawn("g6K b1R h8k"), 149, 90), "b1b8", api.WhiteWins, api.Mate},
	{"stalemate at seventy-five", sample.Counts(sample.Drawn("f6K b7Q h8k"), 149, 90), "b7f7", api.Drawn, api.Stalemate},
	{"stalemate and dead by what is taken", sample.Drawn("g6K f7r h8k d5B"), "d5f7", api.Drawn, api.Stalemate},
	{"five times at seventy-five", sample.Counts(sample.Castle(sample.Midst(), 0), 134, 90), rooks + rooks + rooks + rooks, api.Drawn, api.Fivefold},
	{"four times at seventy-five", sample.Counts(sample.Castle(sample.Midst(), 0), 138, 90), rooks + rooks + rooks, api.Drawn, api.Seventy},
}

// TestRows has each game's moves put in one by one, in rows of two and three, and in one row, as it is and turned: of the same moves all tell the same.
func TestRows(t *testing.T) { // P14.2, P14.4, P14.5
	for _, c := range rows {
		row := sample.Moves(c.row)
		play(t, c.what, c.p, row, c.result, c.reason)
		play(t, c.what+", turned", board.Turn(c.p), turnedRow(row), sample.TurnedResult(c.result), c.reason)
	}
}

// play has all moves ahead of the last leave the game open, and the last lead to a result.
func play(t *testing.T, what string, p api.Position, row []api.Move, result api.Result, why api.Reason) {
	t.Helper()
	one := from(t, p)
	for n, m := range row {
		stands(t, what+", on its way", one, api.Open, api.NoReason)
		answers(t, what, one.Play(m), api.OK)
		if got, want := one.Now(), behind(t, p, row[:n+1]...); got != want {
			t.Fatalf("%s: behind %d moves: %v, want %v", what, n+1, got, want)
		}
	}
	stands(t, what, one, result, why)
	want := lookAt(one)
	if !slices.Equal(want.moves, row) {
		t.Errorf("%s: moves %v, want %v", what, want.moves, row)
	}
	for _, wide := range []int{2, 3, len(row) + 1} {
		g := from(t, p)
		for l := range slices.Chunk(row, wide) {
			answers(t, what, g.Play(l...), api.OK)
		}
		tells(t, what, g, want)
	}
}

// TestEndedFirst has games that have ended at their first position, by the first of what holds there.
func TestEndedFirst(t *testing.T) { // P14.1, P14.2
	type first struct {
		what   string
		p      api.Position
		result api.Result
		reason api.Reason
	}
	all := []first{
		{"kings alone", sample.Drawn("a1K h8k"), api.Drawn, api.Dead},
		{"a knight", sample.Drawn("a1K h8k c3n"), api.Drawn, api.Dead},
		{"bishops of one shade", sample.Drawn("a1K h8k c1B f8b"), api.Drawn, api.Dead},
		{"seventy-five", sample.Counts(sample.Midst(), 150, 90), api.Drawn, api.Seventy},
		{"more than seventy-five", sample.Counts(sample.Midst(), 151, 90), api.Drawn, api.Seventy},
		{"the greatest Half", sample.Counts(sample.Midst(), api.MaxHalf, api.MaxFull), api.Drawn, api.Seventy},
		{"seventy-five, and dead", sample.Counts(sample.Drawn("a1K h8k c1B"), 150, 90), api.Drawn, api.Dead},
		{"stalemate, and dead", sample.Black(sample.Drawn("g6K e6B h8k")), api.Drawn, api.Stalemate},
		{"stalemate, dead, and seventy-five", sample.Counts(sample.Black(sample.Drawn("g6K e7N h8k")), 200, 90), api.Drawn, api.Stalemate},
	}
	for _, c := range sample.Mates() {
		result := api.BlackWins
		if c.Position.Side == api.Black {
			result = api.WhiteWins
		}
		all = append(all, first{"mate " + c.What, c.Position, result, api.Mate})
		if c.Position.Over == api.NoSquare {
			all = append(all, first{"mate at seventy-five " + c.What, sample.Counts(c.Position, 150, 90), result, api.Mate})
		}
	}
	for _, c := range sample.Stalemates() {
		all = append(all, first{"stalemate " + c.What, c.Position, api.Drawn, api.Stalemate})
		if c.Position.Over == api.NoSquare {
			all = append(all, first{"stalemate at seventy-five " + c.What, sample.Counts(c.Position, 150, 90), api.Drawn, api.Stalemate})
		}
	}
	for _, c := range all {
		ended(t, c.what, from(t, c.p), look{now: c.p, result: c.result, reason: c.reason})
		q := board.Turn(c.p)
		ended(t, c.what+", turned", from(t, q), look{now: q, result: sample.TurnedResult(c.result), reason: c.reason})
	}
}

// TestOpenFirst has games that are near an end at their first position.
func TestOpenFirst(t *testing.T) { // P14.1, P14.3
	for half, fifty := range map[int]bool{0: false, 98: false, 99: false, 100: true, 101: true, 148: true, 149: true} {
		for _, p := range []api.Position{sample.Midst(), sample.Begin(), sample.Late()} {
			p = sample.Counts(p, half, 90)
			tells(t, "open", from(t, p), look{now: p, fifty: fifty})
			q := board.Turn(p)
			tells(t, "open, turned", from(t, q), look{now: q, fifty: fifty})
		}
	}
	for _, puts := range []string{"a1K h8k c3n d3N", "a1K h8k c1B c8B", "a1K h8k c1b c8B", "a1K h8k a2P", "a1K h8k h7p", "a1K h8k c3b d3N"} {
		tells(t, "open, with "+puts, from(t, sample.Drawn(puts)), look{now: sample.Drawn(puts)})
	}
}

// TestKeptApart has games of the same moves, and rows and answers that are written over: none changes another one.
func TestKeptApart(t *testing.T) { // R3
	row := sample.Moves(knights + " e2e4 e7e5")
	was := slices.Clone(row)
	g := game.New()
	answers(t, "a row", g.Play(row[:3]...), api.OK)
	answers(t, "a row", g.Play(row[3:]...), api.OK)
	if !slices.Equal(row, was) {
		t.Errorf("%v became %v", was, row)
	}
	want := lookAt(g)
	slices.Reverse(row)
	tells(t, "its row was turned over", g, want)

	told := g.Moves()
	told[0], told[5] = api.Move{}, sample.Move("a2a3")
	_ = append(told[:2], sample.Moves("a2a3 a7a6 b2b3")...)
	tells(t, "what it told was written over", g, want)
	answers(t, "behind that", g.Play(sample.Move("g1f3")), api.OK)
	if got := g.Moves(); !slices.Equal(got, append(was, sample.Move("g1f3"))) {
		t.Errorf("behind that: %v", got)
	}

	two := g.Moves()
	three := append(two, sample.Move("h2h3"))
	answers(t, "one more", g.Play(sample.Move("b8c6")), api.OK)
	if three[len(three)-1] != sample.Move("h2h3") || g.Moves()[len(two)] != sample.Move("b8c6") {
		t.Errorf("%v is shared with %v", three, g.Moves())
	}
}
