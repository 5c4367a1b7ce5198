package fen_test

import (
	"math/rand"
	"slices"
	"testing"

	"zugzwang/api"
	"zugzwang/board"
	"zugzwang/fen"
	"zugzwang/legal"
	"zugzwang/sample"
)

// TestAnyRight has right positions of all sorts: what is shown is parsed, the same.
func TestAnyRight(t *testing.T) { // P15.1, P15.2, P15.4
	r := rand.New(rand.NewSource(153))
	castlings, leaps := map[api.Castle]int{}, map[api.Side]int{}
	for range 20000 {
		p := sample.AnyRight(r.Intn)
		bothWays(t, "any right one", p, modelText(p))
		bothWays(t, "any right one, turned", board.Turn(p), modelText(board.Turn(p)))
		castlings[p.Castle]++
		if p.Over != api.NoSquare {
			leaps[p.Side]++
		}
		if t.Failed() {
			return
		}
	}
	if len(castlings) < 16 || leaps[api.White] < 500 || leaps[api.Black] < 500 {
		t.Errorf("%v castlings, %v leaps: that tries little", castlings, leaps)
	}
}

// TestGames has the positions behind the moves of games.
func TestGames(t *testing.T) { // P15.4
	r := rand.New(rand.NewSource(154))
	starts := sample.Right()
	for _, c := range sample.Known() {
		starts = append(starts, c.Position)
	}
	for _, p := range starts {
		for range 5 {
			now := p
			for range 80 {
				bothWays(t, "in a game", now, modelText(now))
				all := legal.Moves(now)
				if len(all) == 0 {
					break
				}
				now, _ = legal.Play(now, all[r.Intn(len(all))])
			}
		}
	}
}

// shelf keeps positions by their texts.
type shelf map[string]api.Position

// put asks that a right position's text is none of another one's, and that it comes back.
func (s shelf) put(t *testing.T, p api.Position) {
	t.Helper()
	text, errno := fen.Show(p)
	if !board.Right(p) {
		if text != "" || errno != api.ErrArg {
			t.Fatalf("shown as %q, %d: %v", text, errno, p)
		}
		return
	}
	if other, is := s[text]; errno != api.OK || is && other != p {
		t.Fatalf("%q, %d, is the text of %v and of %v", text, errno, other, p)
	}
	s[text] = p
	if q, at, e := fen.Parse(text); q != p || at != 0 || e != api.OK {
		t.Fatalf("%q comes back as %v, %d, %d, of %v", text, q, at, e, p)
	}
}

// TestUnlike has positions and all those that are unlike them in one thing: their texts are unlike.
func TestUnlike(t *testing.T) { // P15.4
	s := shelf{}
	all := append(sample.Right(), sample.Castle(sample.Drawn("a1R e1K h1R a8r e8k h8r"), 15), sample.Drawn("e1K e8k b5p d5p f5p"))
	for _, p := range all {
		for _, q := range []api.Position{p, board.Turn(p)} {
			s.put(t, q)
			s.unlikeSquares(t, q)
			s.unlikeRest(t, q)
		}
	}
	if len(s) < 8000 {
		t.Errorf("%d unlike ones: that tries little", len(s))
	}
}

// unlikeSquares have another piece on a square, or two squares' changed about.
func (s shelf) unlikeSquares(t *testing.T, p api.Position) {
	t.Helper()
	for a := range 64 {
		for _, x := range append(sample.Pieces(), api.Piece{}) {
			q := p
			q.Squares[a] = x
			s.put(t, q)
		}
		for b := range a {
			q := p
			q.Squares[a], q.Squares[b] = q.Squares[b], q.Squares[a]
			s.put(t, q)
		}
	}
}

// unlikeRest have another side to move, other castlings, another Over, other counts.
func (s shelf) unlikeRest(t *testing.T, p api.Position) {
	t.Helper()
	for _, side := range []api.Side{api.White, api.Black} {
		for has := range api.Castle(16) {
			for over := api.NoSquare; over < 64; over++ {
				q := sample.Castle(p, has)
				q.Side, q.Over = side, over
				s.put(t, q)
			}
		}
	}
	for _, half := range []int{0, 1, 2, 10, 11, 12, 21, 100, 101, 110, 111, 112, 121, 211, 1000, 1011, 1024} {
		for _, full := range []int{1, 2, 10, 11, 12, 21, 100, 101, 110, 111, 1000, 1111, 10000, 11111, 16384} {
			s.put(t, sample.Counts(p, half, full))
		}
	}
}

// TestUnlikeGaps has two kings anywhere: no two of them have one text.
func TestUnlikeGaps(t *testing.T) { // P15.4
	s := shelf{}
	for a := range 64 {
		for b := range 64 {
			p := sample.Bare()
			p.Squares[a] = sample.Piece('K')
			p.Squares[b] = sample.Piece('k')
			s.put(t, p)
		}
	}
	if len(s) != 64*63 {
		t.Errorf("%d texts of kings", len(s))
	}
}

// TestShownAgain has texts that are parsed: what comes of them is shown the same.
func TestShownAgain(t *testing.T) { // P15.4
	r := rand.New(rand.NewSource(155))
	all := slices.Clone(texts())
	for range 2000 {
		all = append(all, modelText(sample.AnyRight(r.Intn)))
	}
	for _, text := range all {
		p, at, errno := fen.Parse(text)
		if at != 0 || errno != api.OK {
			t.Fatalf("%q: %d, %d", text, at, errno)
		}
		shows(t, "again", p, text)
	}
}
