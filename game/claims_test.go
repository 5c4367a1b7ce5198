package game_test

import (
	"slices"
	"testing"

	"zugzwang/api"
	"zugzwang/board"
	"zugzwang/game"
	"zugzwang/sample"
)

// claims asks whether a draw may be claimed by a reason, and claims it of a copy: it is drawn, or nothing changes.
func claims(t *testing.T, what string, g *game.Game, why api.Reason, may bool) {
	t.Helper()
	if got := g.May(why); got != may {
		t.Errorf("%s: May(%d) = %v, want %v", what, why, got, may)
	}
	c, want := g.Copy(), lookAt(g)
	if !may {
		errno := api.ErrMove
		if want.result != api.Open {
			errno = api.ErrOver
		}
		answers(t, what, c.Claim(why), errno)
		tells(t, what+": a claim that was refused", c, want)
		return
	}
	answers(t, what, c.Claim(why), api.OK)
	ended(t, what+": a claim", c, look{now: want.now, moves: want.moves, result: api.Drawn, reason: why})
}

// TestThreefold has games with how often each position in them came, from the first on.
func TestThreefold(t *testing.T) { // P14.3
	late := sample.Castle(sample.Midst(), 0)
	for _, c := range []struct {
		what  string
		p     api.Position
		row   string
		times []int
	}{
		{"the begin", board.Start(), "", []int{1}},
		{"both knights out and back", board.Start(), knights + knights + knights + knights, []int{1, 1, 1, 1, 2, 2, 2, 2, 3, 3, 3, 3, 4, 4, 4, 4, 5}},
		{"a pawn behind that", board.Start(), knights + knights + " e2e4 e7e5 g1f3", []int{1, 1, 1, 1, 2, 2, 2, 2, 3, 1, 1, 1}},
		{"a new position, and back", late, rooks + rooks + " a1c1 a8c8 c1a1 c8a8", []int{1, 1, 1, 1, 2, 2, 2, 2, 3, 1, 1, 1, 4}},
		{"one that came twice behind one that came three times", late, rooks + rooks + " h1g1 h8g8 g1h1 g8h8 h1g1", []int{1, 1, 1, 1, 2, 2, 2, 2, 3, 1, 1, 1, 4, 2}},
		{"with castlings that are lost by it", sample.Midst(), rooks + rooks + " a1b1 a8b8", []int{1, 1, 1, 1, 1, 1, 2, 2, 2, 2, 3}},
		{"behind a pawn that could be taken over", sample.BlackLeapt(), " e1d1 e8d8 d1e1 d8e8 e1d1 e8d8 d1e1 d8e8 e1d1", []int{1, 1, 1, 1, 1, 2, 2, 2, 2, 3}},
		{"behind a pawn that could not", board.Start(), "e2e4" + " b8c6 b1c3 c6b8 c3b1 b8c6 b1c3 c6b8 c3b1", []int{1, 1, 1, 1, 1, 2, 2, 2, 2, 3}},
		{"on several ways", board.Start(), knights + " b1c3 g8f6 g1f3 b8c6 c3b1 f6g8 f3g1 c6b8", []int{1, 1, 1, 1, 2, 1, 1, 1, 1, 1, 1, 1, 3}},
		{"with a side's moves alone unlike", late, " a1b1 a8b8 b1a1 b8a8 a1c1 a8b8 c1a1 b8a8 h1g1 a8b8 g1h1 b8a8", []int{1, 1, 1, 1, 2, 1, 1, 2, 3, 1, 1, 3, 4}},
	} {
		for _, turn := range []bool{false, true} {
			row, p := sample.Moves(c.row), c.p
			if turn {
				row, p = turnedRow(row), board.Turn(p)
			}
			g := from(t, p)
			claims(t, c.what, g, api.Threefold, false)
			for n, m := range row {
				answers(t, c.what, g.Play(m), api.OK)
				times := c.times[n+1]
				claims(t, c.what, g, api.Threefold, times == 3 || times == 4)
				claims(t, c.what, g, api.Fifty, false)
			}
		}
	}
}

// TestFifty has games that come to where a draw may be claimed, and behind that.
func TestFifty(t *testing.T) { // P14.3
	for _, c := range []struct {
		what string
		half int
		row  string
		may  string // of each position from the first on: y, or n
	}{
		{"far from it", 0, rooks + rooks, "nnnnnnnnn"},
		{"up to it", 96, rooks, "nnnny"},
		{"by the other side's move", 97, rooks, "nnnyy"},
		{"at it first", 100, rooks, "yyyyy"},
		{"a pawn's move behind it", 98, " a1b1 a8b8 a2a3 b8a8 b1a1", "nnynnn"},
		{"a taking behind it", 98, " a1b1 a8b8 e3c5 b8a8 b1a1", "nnynnn"},
		{"a pawn's move just ahead of it", 98, " a1b1 a7a6 b1a1 a8b8", "nnnnn"},
		{"a taking just ahead of it", 99, " e3c5 a8b8", "nnn"},
		{"up to seventy-five", 146, rooks, "yyyyn"},
	} {
		for _, turn := range []bool{false, true} {
			row, p := sample.Moves(c.row), sample.Counts(sample.Castle(sample.Midst(), 0), c.half, 80)
			if turn {
				row, p = turnedRow(row), board.Turn(p)
			}
			g := from(t, p)
			for n := range c.may {
				claims(t, c.what, g, api.Fifty, c.may[n] == 'y')
				if n < len(row) {
					answers(t, c.what, g.Play(row[n]), api.OK)
				}
			}
		}
	}
}

// TestBothClaims has a position in which a draw may be claimed either way.
func TestBothClaims(t *testing.T) { // P14.3
	g := with(t, sample.Counts(sample.Castle(sample.Midst(), 0), 92, 80), rooks+rooks)
	claims(t, "both", g, api.Threefold, true)
	claims(t, "both", g, api.Fifty, true)
	g = with(t, sample.Counts(sample.Castle(sample.Midst(), 0), 91, 80), rooks+rooks)
	claims(t, "one", g, api.Threefold, true)
	claims(t, "one", g, api.Fifty, false)
	g = with(t, sample.Counts(sample.Castle(sample.Midst(), 0), 96, 80), rooks)
	claims(t, "the other", g, api.Threefold, false)
	claims(t, "the other", g, api.Fifty, true)
}

// TestMayOfOthers has reasons that none claims, in games that could end by them.
func TestMayOfOthers(t *testing.T) { // P14.3
	both := with(t, sample.Counts(sample.Castle(sample.Midst(), 0), 92, 80), rooks+rooks)
	for _, g := range []*game.Game{game.New(), both, with(t, board.Start(), "f2f3 e7e5 g2g4 d8h4"), from(t, sample.Drawn("a1K h8k"))} {
		for _, why := range append(sample.Reasons(), sample.WrongReasons()...) {
			if why != api.Threefold && why != api.Fifty && g.May(why) {
				t.Errorf("May(%d), of %+v", why, lookAt(g))
			}
		}
	}
}

// TestPlayedOn has a game played on behind claims that were refused.
func TestPlayedOn(t *testing.T) { // P14.3
	g := game.New()
	for n, m := range sample.Moves(knights + knights) {
		if n < 8 {
			answers(t, "refused", g.Claim(api.Threefold), api.ErrMove)
			answers(t, "refused", g.Claim(api.Fifty), api.ErrMove)
			answers(t, "refused", g.Claim(api.Agreed), api.ErrArg)
			answers(t, "refused", g.Stop(api.Threefold), api.ErrArg)
		}
		answers(t, "played on", g.Play(m), api.OK)
	}
	tells(t, "behind refused claims", g, look{now: behind(t, board.Start(), sample.Moves(knights+knights)...), moves: sample.Moves(knights + knights), threefold: true})
	answers(t, "refused", g.Claim(api.Fifty), api.ErrMove)
	answers(t, "granted", g.Claim(api.Threefold), api.OK)
	stands(t, "granted", g, api.Drawn, api.Threefold)
}

// TestNotClaimed has a game played on where a draw could be claimed, as nobody did.
func TestNotClaimed(t *testing.T) { // P14.3
	g := with(t, board.Start(), knights+knights+" e2e4 e7e5")
	claims(t, "too late", g, api.Threefold, false)
	stands(t, "too late", g, api.Open, api.NoReason)
	g = with(t, sample.Counts(sample.Midst(), 100, 70), "a2a3")
	claims(t, "too late", g, api.Fifty, false)
	stands(t, "too late", g, api.Open, api.NoReason)
}

// TestStop has games stopped by each reason, with either side to move.
func TestStop(t *testing.T) { // P14.3
	starts := append(sample.Right(), sample.Counts(sample.Midst(), 120, 70), sample.Drawn("a1K h8k a2P"))
	for _, p := range starts {
		for _, q := range []api.Position{p, board.Turn(p)} {
			other := api.BlackWins
			if q.Side == api.Black {
				other = api.WhiteWins
			}
			for why, result := range map[api.Reason]api.Result{api.Agreed: api.Drawn, api.Resigned: other, api.BadSeal: other} {
				g := from(t, q)
				answers(t, "a stop", g.Stop(why), api.OK)
				ended(t, "a stop", g, look{now: q, result: result, reason: why})
			}
		}
	}
	row := sample.Moves(knights + knights)
	for n := range len(row) + 1 {
		won := []api.Result{api.BlackWins, api.WhiteWins}[n%2]
		for why, result := range map[api.Reason]api.Result{api.Agreed: api.Drawn, api.Resigned: won, api.BadSeal: won} {
			g := game.New()
			answers(t, "moves", g.Play(row[:n]...), api.OK)
			answers(t, "a stop behind moves", g.Stop(why), api.OK)
			ended(t, "a stop behind moves", g, look{now: behind(t, board.Start(), row[:n]...), moves: row[:n], result: result, reason: why})
		}
	}
}

// TestCopy has a copy and its game go apart: in moves, in results, in claims.
func TestCopy(t *testing.T) { // P14.4
	g := with(t, board.Start(), knights)
	was := lookAt(g)
	c := g.Copy()
	if c == g {
		t.Fatal("a copy is the game itself")
	}
	tells(t, "a copy", c, was)

	answers(t, "the copy goes on", c.Play(sample.Moves("e2e4 e7e5")...), api.OK)
	tells(t, "the game, behind that", g, was)
	answers(t, "the game goes on", g.Play(sample.Moves(knights)...), api.OK)
	later := lookAt(g)
	if !later.threefold || c.May(api.Threefold) || !slices.Equal(c.Moves(), sample.Moves(knights+" e2e4 e7e5")) {
		t.Errorf("%+v, its copy %+v", later, lookAt(c))
	}

	d, e := g.Copy(), g.Copy()
	answers(t, "a copy's claim", d.Claim(api.Threefold), api.OK)
	answers(t, "another one's resignation", e.Stop(api.Resigned), api.OK)
	tells(t, "the game, behind both", g, later)
	stands(t, "the one", d, api.Drawn, api.Threefold)
	stands(t, "the other", e, api.BlackWins, api.Resigned)
	stands(t, "a copy of one that has ended", e.Copy(), api.BlackWins, api.Resigned)

	f := g.Copy()
	answers(t, "the game is stopped", g.Stop(api.Agreed), api.OK)
	tells(t, "its copy", f, later)
	answers(t, "its copy goes on", f.Play(sample.Moves(knights+knights)...), api.OK)
	ended(t, "its copy", f, look{now: f.Now(), moves: sample.Moves(knights + knights + knights + knights), result: api.Drawn, reason: api.Fivefold})
	ended(t, "the game", g, look{now: later.now, moves: later.moves, result: api.Drawn, reason: api.Agreed})
}

// TestCopiedBook has a game and its copy come to the same positions in turns: neither's count for the other.
func TestCopiedBook(t *testing.T) { // P14.4
	g := game.New()
	c := g.Copy()
	for n := range 4 {
		for _, x := range []*game.Game{g, c} {
			answers(t, "in turns", x.Play(sample.Moves(knights)...), api.OK)
			claims(t, "in turns", x, api.Threefold, n == 1 || n == 2)
		}
	}
	stands(t, "the game", g, api.Drawn, api.Fivefold)
	stands(t, "its copy", c, api.Drawn, api.Fivefold)
}

// TestCopiedMoves has a game and its copy go on from one row of moves: what one adds stands nowhere in the other.
func TestCopiedMoves(t *testing.T) { // P14.4, R3
	for n := range 12 {
		row := sample.Moves(knights + knights + knights)[:n]
		g := game.New()
		answers(t, "a row", g.Play(row...), api.OK)
		c := g.Copy()
		mine, others := sample.Move("a2a3"), sample.Move("h2h3")
		if n%2 == 1 {
			mine, others = sample.Move("a7a6"), sample.Move("h7h6")
		}
		answers(t, "the game", g.Play(mine), api.OK)
		answers(t, "its copy", c.Play(others), api.OK)
		if !slices.Equal(g.Moves(), append(slices.Clone(row), mine)) || !slices.Equal(c.Moves(), append(slices.Clone(row), others)) {
			t.Errorf("behind %d: %v, %v", n, g.Moves(), c.Moves())
		}
	}
}
