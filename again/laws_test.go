package again_test

import (
	"math/rand"
	"testing"

	"zugzwang/again"
	"zugzwang/api"
	"zugzwang/attack"
	"zugzwang/board"
	"zugzwang/legal"
	"zugzwang/play"
	"zugzwang/sample"
)

// modelOver goes through the pawns beside the one that went two ranks.
func modelOver(p api.Position) int {
	if !legal.Position(p) || p.Over == api.NoSquare {
		return api.NoSquare
	}
	rank := 4 - int(p.Side)
	for _, file := range []int{p.Over%8 - 1, p.Over%8 + 1} {
		if file < 0 || file > 7 || p.Squares[8*rank+file] != (api.Piece{Kind: api.Pawn, Side: p.Side}) {
			continue
		}
		behind, _ := play.Move(p, api.Move{From: 8*rank + file, To: p.Over})
		if !attack.Check(behind, p.Side) {
			return p.Over
		}
	}
	return api.NoSquare
}

// stand is what two positions that are the same have in common.
type stand struct {
	squares [64]api.Piece
	side    api.Side
	castle  api.Castle
	over    int
}

func standOf(p api.Position) stand {
	return stand{p.Squares, p.Side, p.Castle, modelOver(sample.Counts(p, 0, 1))}
}

// shelf has what was asked, so that unlike things are held against each other.
type shelf struct {
	keys   map[stand]string
	stands map[string]stand
	last   api.Position
	taken  int
}

func emptyShelf() *shelf {
	return &shelf{keys: map[stand]string{}, stands: map[string]stand{}}
}

// laws asks what holds of each position, by itself and beside those ahead of it.
func (s *shelf) laws(t *testing.T, p api.Position) {
	t.Helper()
	if got, want := again.Over(p), modelOver(p); got != want {
		t.Fatalf("over %d, want %d, of %v", got, want, p)
	}
	if again.Over(p) != api.NoSquare {
		s.taken++
	}
	key, at := again.Key(p), standOf(p)
	if k, had := s.keys[at]; had && k != key {
		t.Fatalf("two texts, %q and %q, of %v", k, key, p)
	}
	if was, had := s.stands[key]; had && was != at {
		t.Fatalf("one text, %q, of %v and of %v", key, was, at)
	}
	s.keys[at], s.stands[key] = key, at
	for _, q := range []api.Position{p, s.last, without(p), sample.Counts(p, 3, 5)} {
		if again.Same(p, q) != (at == standOf(q)) || again.Same(q, p) != again.Same(p, q) || (key == again.Key(q)) != again.Same(p, q) {
			t.Fatalf("Same %v, and %v, one Key: %v, of %v and %v", again.Same(p, q), again.Same(q, p), key == again.Key(q), p, q)
		}
	}
	s.last = p
}

func TestByModel(t *testing.T) { // P12.1, P12.3
	r := rand.New(rand.NewSource(121))
	s := emptyShelf()
	for range 3000 {
		p := sample.AnyRight(r.Intn)
		s.laws(t, p)
		s.laws(t, without(p))
		s.laws(t, sample.Counts(p, r.Intn(200), r.Intn(200)))
		s.laws(t, board.Turn(p))
	}
	if s.taken < 300 {
		t.Errorf("%d may be taken over: that tries little", s.taken)
	}
	for range 3000 {
		s.laws(t, sample.Scattered(r.Intn))
	}
	for _, p := range bases() {
		for _, wrong := range sample.Spoilt(p) {
			s.laws(t, wrong.Position)
		}
	}
}

// TestPinsByModel has a pawn that may be taken over, a king and what may look at him anywhere.
func TestPinsByModel(t *testing.T) { // P12.1
	r := rand.New(rand.NewSource(122))
	s := emptyShelf()
	for range 3000 {
		p := sample.Drawn("d5p e5P")
		if r.Intn(3) == 0 {
			p = sample.Set(p, "c5P")
		}
		for _, letter := range []byte{"qrbn"[r.Intn(4)], "qrb"[r.Intn(3)], 'K', 'k'} {
			at := r.Intn(64)
			for p.Squares[at] != (api.Piece{}) || at == 43 || at == 51 {
				at = r.Intn(64)
			}
			p.Squares[at] = sample.Piece(letter)
		}
		s.laws(t, sample.Over(p, "d6"))
	}
	if s.taken < 800 || s.taken > 2600 {
		t.Errorf("%d may be taken over: that tries little", s.taken)
	}
}

// run is one of legal moves, with the positions that no later one may be the same as, and those since.
type run struct {
	now          api.Position
	ahead, since []api.Position
	cameAgain    int
	mine         [2]api.Move
}

// move is one of those that are legal; often the one back from the last that its side made.
func (n *run) move(r *rand.Rand) (api.Move, bool) {
	back := api.Move{From: n.mine[n.now.Side].To, To: n.mine[n.now.Side].From}
	if r.Intn(2) == 0 && legal.Is(n.now, back) {
		return back, true
	}
	all := legal.Moves(n.now)
	if len(all) == 0 {
		return api.Move{}, false
	}
	return all[r.Intn(len(all))], true
}

// staysBehind says whether there is no way back behind a move.
func staysBehind(p, behind api.Position, m api.Move) bool {
	empty := api.Piece{}
	took := len(board.Find(p, empty)) < len(board.Find(behind, empty))
	return p.Squares[m.From].Kind == api.Pawn || took || p.Castle != behind.Castle
}

func (n *run) step(t *testing.T, m api.Move) {
	t.Helper()
	behind, errno := legal.Play(n.now, m)
	if errno != api.OK {
		t.Fatalf("%v: %d, of %v", m, errno, n.now)
	}
	n.since = append(n.since, n.now)
	if staysBehind(n.now, behind, m) {
		n.ahead, n.since = append(n.ahead, n.since...), nil
	}
	n.now, n.mine[n.now.Side] = behind, m
	for _, p := range n.ahead {
		if again.Same(p, behind) {
			t.Fatalf("%v came again: %v", p, behind)
		}
	}
	for _, p := range n.since {
		if again.Same(p, behind) {
			n.cameAgain++
			break
		}
	}
}

// TestNoWayBack has runs of moves that often go back: behind a move of a pawn, one that takes, and one that loses a castling, none comes to a position that was there ahead of it.
func TestNoWayBack(t *testing.T) { // P12.3
	r := rand.New(rand.NewSource(123))
	starts := append(bases(), sample.Castle(sample.Drawn("e1K a1R h1R e8k a8r h8r"), 15), sample.Castle(sample.Drawn("e1K h1R e8k a8r a7p b5P"), 9))
	cameAgain, ahead := 0, 0
	for _, p := range starts {
		for range 12 {
			n := run{now: p}
			for range 120 {
				m, has := n.move(r)
				if !has {
					break
				}
				n.step(t, m)
			}
			cameAgain += n.cameAgain
			ahead += len(n.ahead)
		}
	}
	if cameAgain < 1000 || ahead < 3000 {
		t.Errorf("%d came again, %d were left behind: that tries little", cameAgain, ahead)
	}
}

// TestWaysBack has rows that come back to how the pieces stood, where one move of them has no way back.
func TestWaysBack(t *testing.T) { // P12.3
	castle := sample.Castle(sample.Drawn("e1K a1R h1R e8k a8r h8r"), 15)
	for _, c := range []struct {
		what, row string
		p         api.Position
		again     bool
	}{
		{"nothing lost", knights, board.Start(), true},
		{"kings that lose castlings", "e1e2 e8e7 e2e1 e7e8", castle, false},
		{"white's king", "e1e2 h8h7 e2e1 h7h8", sample.Castle(castle, 3), false},
		{"black's king", "h1h2 e8e7 h2h1 e7e8", sample.Castle(castle, 12), false},
		{"white's rook on h", "h1h2 e8e7 h2h1 e7e8", sample.Castle(castle, 1), false},
		{"white's rook on a", "a1a2 e8e7 a2a1 e7e8", sample.Castle(castle, 2), false},
		{"black's rook on h", "e1e2 h8h7 e2e1 h7h8", sample.Castle(castle, 4), false},
		{"black's rook on a", "e1e2 a8a7 e2e1 a7a8", sample.Castle(castle, 8), false},
		{"white's rook that has lost its castling", "h1h2 h8h7 h2h1 h7h8", sample.Castle(castle, 10), true},
		{"all lost", "e1e2 e8e7 e2e1 e7e8", sample.Castle(castle, 0), true},
		{"a pawn that is not taken over", knights, sample.Over(sample.Drawn("e1K g1N e8k g8n d5p e5P"), "d6"), false},
		{"a pawn that could not be taken over", knights, sample.Over(sample.Drawn("e1K g1N h8k g8n d5p e5P e7r"), "d6"), true},
		{"one that is promoted and goes back", "b7b8Q h2h3 b8b7 h3h2", sample.Drawn("b7P a1K h2k"), false},
		{"one that is taken, another that comes there", "d1d8 h8h7 d8d1 h7h8", sample.Drawn("d1R d8r a1K h8k"), false},
	} {
		all := steps(t, c.p, c.row)
		alike(t, c.what, c.p, all[len(all)-1], c.again)
	}
}

// TestAlikeEachTime asks things twice.
func TestAlikeEachTime(t *testing.T) { // R3, R4
	for _, p := range append(bases(), api.Position{Side: 5, Castle: -1, Over: 99, Half: -1}, drawn("e1K h8k d5p e5P e8r", "d6")) {
		was := p
		over, key := again.Over(p), again.Key(p)
		b := again.New(p)
		b.Put(p)
		if p != was {
			t.Errorf("%v became %v", was, p)
		}
		if again.Over(p) != over || again.Key(p) != key || b.Many(p) != 2 {
			t.Errorf("answered otherwise once more, of %v", p)
		}
	}
}
