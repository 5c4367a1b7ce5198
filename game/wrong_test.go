package game_test

import (
	"testing"

	"zugzwang/api"
	"zugzwang/board"
	"zugzwang/game"
	"zugzwang/legal"
	"zugzwang/sample"
)

// ended asks what a game tells that has ended, and that it stays so, whatever is done with it; the first error is told where others hold, too.
func ended(t *testing.T, what string, g *game.Game, want look) {
	t.Helper()
	tells(t, what, g, want)
	for _, m := range append(legal.Moves(want.now), api.Move{}, sample.Move("e2e4"), api.Move{From: -1, To: 64}) {
		answers(t, what+": moves", g.Play(m), api.ErrOver)
		answers(t, what+": moves", g.Play(m, m), api.ErrOver)
	}
	answers(t, what+": no moves", g.Play(), api.OK)
	for _, why := range append(sample.Reasons(), sample.WrongReasons()...) {
		claim, stop := api.ErrArg, api.ErrArg
		switch why {
		case api.Threefold, api.Fifty:
			claim = api.ErrOver
		case api.Agreed, api.Resigned, api.BadSeal:
			stop = api.ErrOver
		}
		answers(t, what+": a claim", g.Claim(why), claim)
		answers(t, what+": a stop", g.Stop(why), stop)
		if g.May(why) {
			t.Errorf("%s: May(%d)", what, why)
		}
	}
	tells(t, what+": behind all that", g, want)
}

func notFrom(t *testing.T, what string, p api.Position) {
	t.Helper()
	if g, errno := game.From(p); g != nil || errno != api.ErrArg {
		t.Errorf("%s: %v, %d, of %v", what, g, errno, p)
	}
}

// TestWrongFrom has positions that are not right, and right ones that may not be played on.
func TestWrongFrom(t *testing.T) { // P14.1
	notFrom(t, "a zero position", api.Position{})
	notFrom(t, "a bare board", sample.Bare())
	for _, p := range sample.Right() {
		for _, wrong := range sample.Spoilt(p) {
			notFrom(t, wrong.What, wrong.Position)
		}
	}
	for _, c := range append(sample.Mates(), sample.Stalemates()...) {
		notFrom(t, "ended "+c.What+", with a wrong Half", sample.Counts(c.Position, -1, 1))
		notFrom(t, "ended "+c.What+", with a wrong Full", sample.Counts(c.Position, 0, 0))
		if c.Position.Over == api.NoSquare {
			notFrom(t, "ended "+c.What+", with a Half that is too great", sample.Counts(c.Position, api.MaxHalf+1, 90))
		}
	}
	for _, c := range sample.OtherInCheck() {
		notFrom(t, c.What, c.Position)
		notFrom(t, c.What+", turned", board.Turn(c.Position))
		notFrom(t, c.What+", with a Half", sample.Counts(c.Position, 150, 90))
	}
	for _, c := range sample.Mates() {
		p := c.Position
		p.Side, p.Over = 1-p.Side, api.NoSquare
		notFrom(t, "the side that is mated does not move", p)
	}
	notFrom(t, "kings face to face", sample.Drawn("e4K e5k"))
	notFrom(t, "one king", sample.Drawn("e4K"))
}

// notMade asks that a move is refused, and nothing changes.
func notMade(t *testing.T, g *game.Game, m api.Move, want look) {
	t.Helper()
	if errno := g.Play(m); errno != api.ErrMove || g.Now() != want.now || len(g.Moves()) != len(want.moves) {
		t.Fatalf("%v: %d, %+v, want %+v", m, errno, lookAt(g), want)
	}
}

// TestWrongMoves has all moves that are not legal, in some games.
func TestWrongMoves(t *testing.T) { // P14.2
	for _, g := range []*game.Game{game.New(), with(t, board.Start(), "e2e4"), from(t, sample.Midst()), from(t, sample.WhiteLeapt()), from(t, sample.Late()), from(t, sample.Drawn("e1K e2R e8r h8k"))} {
		want := lookAt(g)
		isLegal := map[api.Move]int{}
		for _, m := range legal.Moves(want.now) {
			isLegal[m] = 1
		}
		for n := range 64 * 64 * 8 {
			m := api.Move{From: n % 64, To: n / 64 % 64, Becomes: api.Kind(n/64/64) - 1}
			if isLegal[m] == 0 {
				notMade(t, g, m, want)
			}
		}
		for _, s := range sample.WrongSquares() {
			notMade(t, g, api.Move{From: s, To: 28}, want)
			notMade(t, g, api.Move{From: 12, To: s}, want)
			notMade(t, g, api.Move{From: s, To: s}, want)
		}
		for _, kind := range sample.WrongKinds() {
			for m := range isLegal {
				m.Becomes = kind
				notMade(t, g, m, want)
			}
		}
		tells(t, "behind moves that are not legal", g, want)
	}
}

// TestWrongInRow has a move that is not legal at each place of a row: those ahead of it stay made, those behind it are not.
func TestWrongInRow(t *testing.T) { // P14.2
	row := sample.Moves("e2e4 e7e5 g1f3 b8c6 f1c4 g8f6 e1g1 f8c5")
	for n := range len(row) + 1 {
		for _, wrong := range sample.Moves("e2e4Q d1d8 a1a1 h4h5 e1c1 e1e3") {
			l := append(append(append([]api.Move{}, row[:n]...), wrong), row[n:]...)
			g := game.New()
			answers(t, "a wrong move in a row", g.Play(l...), api.ErrMove)
			tells(t, "behind a wrong move in a row", g, look{now: behind(t, board.Start(), row[:n]...), moves: row[:n]})
			answers(t, "played on", g.Play(row[n:]...), api.OK)
			tells(t, "played on", g, look{now: behind(t, board.Start(), row...), moves: row})
		}
	}
	g := game.New()
	answers(t, "the other side's move", g.Play(sample.Moves("e2e4 d2d4")...), api.ErrMove)
	answers(t, "a move twice", g.Play(sample.Moves("e7e5 e7e5")...), api.ErrMove)
	tells(t, "behind both", g, look{now: behind(t, board.Start(), sample.Moves("e2e4 e7e5")...), moves: sample.Moves("e2e4 e7e5")})
	answers(t, "two that are wrong", g.Play(sample.Moves("d1h5 a1a8 d1d8 b8c6")...), api.ErrMove)
	tells(t, "behind the first", g, look{now: behind(t, board.Start(), sample.Moves("e2e4 e7e5 d1h5")...), moves: sample.Moves("e2e4 e7e5 d1h5")})
}

// TestBehindTheEnd has rows that go on behind a move that ends the game: those up to it stay made.
func TestBehindTheEnd(t *testing.T) { // P14.2
	for _, c := range rows {
		if c.result == api.Open {
			continue
		}
		row := sample.Moves(c.row)
		want := look{now: behind(t, c.p, row...), moves: row, result: c.result, reason: c.reason}
		more := append(legal.Moves(want.now), api.Move{}, sample.Move("a1a1"), api.Move{From: -1})
		for _, m := range more {
			for n := range len(row) + 1 {
				if n < len(row)-2 {
					continue
				}
				g := from(t, c.p)
				answers(t, c.what, g.Play(row[:n]...), api.OK)
				answers(t, c.what+", and more", g.Play(append(append([]api.Move{}, row[n:]...), m, m)...), api.ErrOver)
				tells(t, c.what+", and more", g, want)
			}
		}
		g := from(t, c.p)
		answers(t, c.what, g.Play(row...), api.OK)
		ended(t, c.what, g, want)
		ended(t, c.what+", a copy", g.Copy(), want)
	}
}

// TestWrongReasons has claims and stops of each reason in games that stand open.
func TestWrongReasons(t *testing.T) { // P14.3
	for _, g := range []*game.Game{game.New(), with(t, board.Start(), "e2e4"), with(t, board.Start(), knights+knights), from(t, sample.Counts(sample.Midst(), 120, 70))} {
		want := lookAt(g)
		for _, why := range append(sample.Reasons(), sample.WrongReasons()...) {
			claim, stop := api.ErrArg, api.ErrArg
			switch {
			case why == api.Threefold && want.threefold, why == api.Fifty && want.fifty:
				claim = api.OK
			case why == api.Threefold, why == api.Fifty:
				claim = api.ErrMove
			case why == api.Agreed, why == api.Resigned, why == api.BadSeal:
				stop = api.OK
			}
			if c := g.Copy(); c.Claim(why) != claim || claim != api.OK && c.Stop(api.Agreed) != api.OK {
				t.Errorf("a claim by %d: not %d, of %+v", why, claim, want)
			}
			if c := g.Copy(); c.Stop(why) != stop || stop != api.OK && c.Stop(api.Agreed) != api.OK {
				t.Errorf("a stop by %d: not %d, of %+v", why, stop, want)
			}
			if claim != api.OK {
				answers(t, "a claim", g.Claim(why), claim)
				tells(t, "a claim that was refused", g, want)
			}
			if stop != api.OK {
				answers(t, "a stop", g.Stop(why), stop)
				tells(t, "a stop that was refused", g, want)
			}
		}
	}
}

// isNone asks all calls of what is no game.
func isNone(t *testing.T, what string, g *game.Game) {
	t.Helper()
	for range 2 {
		answers(t, what+": no moves", g.Play(), api.ErrNil)
		answers(t, what+": moves", g.Play(sample.Moves("e2e4 e7e5")...), api.ErrNil)
		answers(t, what+": no legal move", g.Play(api.Move{}), api.ErrNil)
		for _, why := range append(sample.Reasons(), sample.WrongReasons()...) {
			answers(t, what+": a claim", g.Claim(why), api.ErrNil)
			answers(t, what+": a stop", g.Stop(why), api.ErrNil)
			if g.May(why) {
				t.Errorf("%s: May(%d)", what, why)
			}
		}
		if p, l := g.Now(), g.Moves(); p != (api.Position{}) || len(l) != 0 {
			t.Errorf("%s: %v, %v", what, p, l)
		}
		stands(t, what, g, api.Open, api.NoReason)
		if c := g.Copy(); c != nil {
			t.Errorf("%s: has a copy", what)
		}
	}
}

// TestNoGame has all that is no game: also copies by value of games that stand open, in which a draw may be claimed, and that have ended.
func TestNoGame(t *testing.T) { // P14.4, R5
	isNone(t, "nil", nil)
	isNone(t, "a zero game", &game.Game{})
	isNone(t, "a new one", new(game.Game))
	isNone(t, "a copy of none", (*game.Game)(nil).Copy())
	none, _ := game.From(sample.Bare())
	isNone(t, "one from a position that may not be played on", none)
	for _, g := range []*game.Game{game.New(), with(t, board.Start(), knights+knights), with(t, board.Start(), "f2f3 e7e5 g2g4 d8h4"), from(t, sample.Counts(sample.Midst(), 120, 70))} {
		want := lookAt(g)
		other := *g
		isNone(t, "a copy by value", &other)
		tells(t, "a game that was copied by value", g, want)
	}
}
