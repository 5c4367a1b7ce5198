package ends_test

import (
	"slices"
	"testing"

	"zugzwang/api"
	"zugzwang/board"
	"zugzwang/ends"
	"zugzwang/legal"
	"zugzwang/sample"
)

// is asks how a position ends a game.
func is(t *testing.T, what string, p api.Position, result api.Result, reason api.Reason) {
	t.Helper()
	if got, why := ends.Of(p); got != result || why != reason {
		t.Errorf("%s: %d, %d, want %d, %d, of %v", what, got, why, result, reason, p)
	}
}

// counted are a position with all sorts of counts that it may have.
func counted(p api.Position) []api.Position {
	all := []api.Position{p}
	for _, full := range []int{1, 2, api.MaxFull} {
		all = append(all, sample.Counts(p, p.Half, full))
	}
	if p.Over == api.NoSquare {
		for _, half := range []int{0, 1, 49, 50, 99, 100, 101, 149, 150, 151, api.MaxHalf} {
			all = append(all, sample.Counts(p, half, 80))
		}
	}
	return all
}

// comes asks how a position that may be played on ends a game, whatever its counts, and how it does turned.
func comes(t *testing.T, what string, p api.Position, result api.Result, reason api.Reason) {
	t.Helper()
	if !legal.Position(p) {
		t.Fatalf("%s: %v may not be played on", what, p)
	}
	for _, q := range counted(p) {
		is(t, what, q, result, reason)
		is(t, what+", turned", board.Turn(q), sample.TurnedResult(result), reason)
	}
}

// otherWins is the result by which the side wins that does not move.
func otherWins(p api.Position) api.Result {
	return []api.Result{api.BlackWins, api.WhiteWins}[p.Side]
}

func TestExamples(t *testing.T) { // P11.1
	is(t, "the mate", sample.Black(sample.Drawn("f6K g7Q g8k")), api.WhiteWins, api.Mate)
	is(t, "the stalemate", sample.Black(sample.Drawn("f6K f7Q h8k")), api.Drawn, api.Stalemate)
	is(t, "the mate of white", sample.Drawn("f3k g2q g1K"), api.BlackWins, api.Mate)
	is(t, "the stalemate of white", sample.Drawn("f3k f2q h1K"), api.Drawn, api.Stalemate)
	is(t, "the begin", board.Start(), api.Open, api.NoReason)
}

func TestMates(t *testing.T) { // P11.1, P11.3
	for _, c := range sample.Mates() {
		comes(t, "mate "+c.What, c.Position, otherWins(c.Position), api.Mate)
	}
}

func TestStalemates(t *testing.T) { // P11.1, P11.3
	for _, c := range sample.Stalemates() {
		comes(t, "stalemate "+c.What, c.Position, api.Drawn, api.Stalemate)
	}
}

func TestOpen(t *testing.T) { // P11.1, P11.3
	for _, p := range append(sample.Right(), sample.Black(sample.Begin()), sample.Black(sample.Midst()), sample.Black(sample.Late())) {
		comes(t, "right", p, api.Open, api.NoReason)
	}
	for _, c := range sample.Known() {
		comes(t, "in a game", c.Position, api.Open, api.NoReason)
	}
	for _, puts := range []string{"e1K e8k", "a1K c1k", "a1K h8k b1N", "a1K h8k c1B", "a1K h8k a8q", "e4K e5r e6r h8k", "h1K a8k b7p"} {
		comes(t, puts, sample.Drawn(puts), api.Open, api.NoReason)
	}
	for _, puts := range []string{"e1K e8k", "a1K c1k", "a1K h8k f6N", "a1K h8k g7B", "a1K h8k h7Q", "h1K a8k b7P"} {
		comes(t, puts+", of black", sample.Black(sample.Drawn(puts)), api.Open, api.NoReason)
	}
}

// TestWhatHelps has positions in which few moves are legal, and those without what can move: mates, where a side is in check, else stalemates.
func TestWhatHelps(t *testing.T) { // P11.1, P11.3
	white, black := sample.Drawn, func(puts string) api.Position { return sample.Black(sample.Drawn(puts)) }
	for _, c := range []struct {
		what       string
		p          api.Position
		legal      string
		puts       string
		orElseItIs api.Reason
	}{
		{"a step out of check", black("g1K e8R g8k f7p g7p"), "g8h7", "h7p", api.Mate},
		{"a step out of a check by two", black("a1K e1R f6N e8k d8q f8b d7p g7p"), "e8f7", "f7p", api.Mate},
		{"a king that takes", white("a1K b2q h8k"), "a1b2", "h8. b3k", api.Mate},
		{"a king that takes, not in check", white("a1K b2r h8k"), "a1b2", "h8. b3k", api.Stalemate},
		{"a bishop that takes", white("a1K h8k h1r h2r c6B"), "c6h1", "c6.", api.Mate},
		{"a knight that takes", black("a1K f7N h8k g8r g7p h7p d8n"), "d8f7", "d8.", api.Mate},
		{"a pawn that takes", black("c5K b5Q a5k c6p"), "c6b5", "c6.", api.Mate},
		{"a rook between", white("a1K h8k h1r h2r c7R"), "c7c1", "c7.", api.Mate},
		{"a bishop between", white("a1K h8k h1r h2r d3B"), "d3b1 d3f1", "d3.", api.Mate},
		{"a pawn between", white("a3K h3r b8r h4r g8b e8k d2P"), "d2d3", "d2.", api.Mate},
		{"a pawn between by a long step", white("a4K h4r b8r h5r h3r e8k d2P"), "d2d4", "d2.", api.Mate},
		{"a pawn between at the end", white("a8K d7P h8r b1r g1b e2k"), "d7d8N d7d8B d7d8R d7d8Q", "d7.", api.Mate},
		{"a pawn that takes at the end", white("a8K d7P c8r b1r g1b e2k"), "d7c8N d7c8B d7c8R d7c8Q", "d7.", api.Mate},
		{"a pawn that takes over, in check by the one it takes", sample.Over(black("d5k e4P d3K a6R d7N f4p"), "e3"), "f4e3", "f4.", api.Mate},
		{"a pawn that takes over, and stands between", sample.Over(white("a3K e5P d5p f8b h8k b1r h4r h2r"), "d6"), "e5d6", "e5.", api.Mate},
		{"a pawn that takes over, not in check", sample.Over(black("a4k f4p f3P g4P h4B b8R c2N c6N h1K"), "g3"), "f4g3", "h4R", api.Stalemate},
		{"a pawn that goes on", white("a1K b3q h8k g4P"), "g4g5", "g5p", api.Stalemate},
		{"a pawn that takes, not in check", white("a1K b3q h8k g4P g5p h5p"), "g4h5", "h5.", api.Stalemate},
		{"a pawn at the end", white("a1K b3q c7P e5k"), "c7c8N c7c8B c7c8R c7c8Q", "c8b", api.Stalemate},
		{"a bishop that is not pinned", black("a6K h1R b8b a8k"), "b8h2 b8g3 b8f4 b8e5 b8d6 b8a7 b8c7", "h1. h8R", api.Stalemate},
		{"a rook that is pinned, but goes towards what pins it", black("a6K h8R b8r a8k"), "b8c8 b8d8 b8e8 b8f8 b8g8 b8h8", "b8b", api.Stalemate},
	} {
		if got, want := legal.Moves(c.p), sample.Moves(c.legal); !slices.Equal(got, want) {
			t.Errorf("%s: %v are legal, want %v", c.what, got, want)
		}
		comes(t, c.what, c.p, api.Open, api.NoReason)
		without := sample.Set(c.p, c.puts)
		result := api.Drawn
		if c.orElseItIs == api.Mate {
			result = otherWins(without)
		}
		comes(t, "without "+c.what, without, result, c.orElseItIs)
	}
}

// TestOverHelps has a mate that is none as long as a pawn may take over.
func TestOverHelps(t *testing.T) { // P11.1
	p := sample.Black(sample.Drawn("d5k e4P d3K a6R d7N f4p"))
	comes(t, "over", sample.Over(p, "e3"), api.Open, api.NoReason)
	comes(t, "a move later", p, api.WhiteWins, api.Mate)
}

// TestCastlingHelps has sides whose legal moves are a castling, and what must be beside one: its king's one step, its rook's.
func TestCastlingHelps(t *testing.T) { // P11.1, P11.3
	for _, c := range []struct {
		puts     string
		has      api.Castle
		castling string
		legal    string
	}{
		{"e1K h1R h2P h3p d8r a2r b8k", 1, "e1g1", "e1f1 e1g1 h1f1 h1g1"},
		{"e1K a1R a2P a3p f8r h2r g8k", 2, "e1c1", "a1b1 a1c1 a1d1 e1c1 e1d1"},
	} {
		p := sample.Castle(sample.Drawn(c.puts), c.has)
		if got, want := legal.Moves(p), sample.Moves(c.legal); !slices.Equal(got, want) {
			t.Errorf("%s: %v are legal, want %v", c.puts, got, want)
		}
		comes(t, "with a castling", p, api.Open, api.NoReason)
		comes(t, "without a castling", sample.Castle(p, 0), api.Open, api.NoReason)
		behind, _ := legal.Play(p, sample.Move(c.castling))
		comes(t, "behind a castling", behind, api.Open, api.NoReason)
	}
}

// TestGames has games to their ends: all positions ahead of that are open.
func TestGames(t *testing.T) { // P11.1
	chase := "d2d4 e7e6 g1f3 f7f5 b1c3 g8f6 c1g5 f8e7 g5f6 e7f6 e2e4 f5e4 c3e4 b7b6 f3e5 e8g8 f1d3 c8b7 d1h5 d8e7 h5h7 g8h7 e4f6 h7h6 e5g4 h6g5 h2h4 g5f4 g2g3 f4f3 d3e2 f3g2 h1h2 g2g1 "
	for _, c := range []struct {
		row    string
		result api.Result
		reason api.Reason
	}{
		{"f2f3 e7e5 g2g4 d8h4", api.BlackWins, api.Mate},
		{"e2e4 e7e5 d1h5 b8c6 f1c4 g8f6 h5f7", api.WhiteWins, api.Mate},
		{"e2e4 c7c6 d2d4 d7d5 b1c3 d5e4 c3e4 b8d7 d1e2 g8f6 e4d6", api.WhiteWins, api.Mate},
		{chase + "e1d2", api.WhiteWins, api.Mate},
		{chase + "e1c1", api.WhiteWins, api.Mate},
		{"e2e3 a7a5 d1h5 a8a6 h5a5 h7h5 h2h4 a6h6 a5c7 f7f6 c7d7 e8f7 d7b7 d8d3 b7b8 d3h7 b8c8 f7g6 c8e6", api.Drawn, api.Stalemate},
		{"d2d4 d7d6 d1d2 e7e5 a2a4 e5e4 d2f4 f7f5 h2h3 f8e7 f4h2 c8e6 a1a3 c7c5 a3g3 d8a5 b1d2 e7h4 f2f3 e6b3 d4d5 e4e3 c2c4 f5f4", api.Drawn, api.Stalemate},
	} {
		row := sample.Moves(c.row)
		for n := range row {
			p, errno := legal.Play(board.Start(), row[:n]...)
			if errno != api.OK {
				t.Fatalf("%s: %d", c.row, errno)
			}
			is(t, "in a game", p, api.Open, api.NoReason)
		}
		p, errno := legal.Play(board.Start(), row...)
		if errno != api.OK {
			t.Fatalf("%s: %d", c.row, errno)
		}
		comes(t, c.row, p, c.result, c.reason)
	}
}
