package moves_test

import (
	"slices"
	"testing"

	"zugzwang/api"
	"zugzwang/moves"
	"zugzwang/sample"
)

// both asks the same of white's and of black's position, each as it is told.
type both struct {
	what, white, at, want       string
	black, blackAt, blackWanted string
}

func (c both) ask(t *testing.T) {
	t.Helper()
	goes(t, c.what+", white", sample.Set(sample.Bare(), c.white), c.at, c.want)
	goes(t, c.what+", black", sample.Black(sample.Set(sample.Bare(), c.black)), c.blackAt, c.blackWanted)
}

func TestPawnsAhead(t *testing.T) { // P9.1
	for _, c := range []both{
		{"nothing ahead", "e2P", "e2", "e3 e4", "e7p", "e7", "e5 e6"},
		{"nothing ahead, on file a", "a2P", "a2", "a3 a4", "a7p", "a7", "a5 a6"},
		{"nothing ahead, on file h", "h2P", "h2", "h3 h4", "h7p", "h7", "h5 h6"},
		{"something behind both", "e2P e5n e1K", "e2", "e3 e4", "e7p e4N e8k", "e7", "e5 e6"},
		{"a rank on from where it began", "e3P", "e3", "e4", "e6p", "e6", "e5"},
		{"two ranks on", "e4P", "e4", "e5", "e5p", "e5", "e4"},
		{"ahead of the other's first rank", "e6P", "e6", "e7", "e3p", "e3", "e2"},
		{"behind where it begins", "e1P", "e1", "e2", "e8p", "e8", "e7"},
		{"behind where it begins, with something ahead", "e1P e2P", "e1", "", "e8p e7p", "e8", ""},
		{"at the end", "e8P", "e8", "", "e1p", "e1", ""},
		{"at the end, by the edge", "h8P a8r g8r", "h8", "", "a1p h1R b1R", "a1", ""},
	} {
		c.ask(t)
	}
}

// TestPawnsBlocked has each thing one rank ahead, two ranks ahead, on both, of a pawn on its first rank and of others.
func TestPawnsBlocked(t *testing.T) { // P9.1
	for _, x := range things() {
		for file := range 8 {
			name := string(rune('a' + file))
			for _, c := range []struct {
				letter           byte
				at, things, want string
			}{
				{'P', "2", name + "3", ""},
				{'P', "2", name + "4", name + "3"},
				{'P', "2", name + "3 " + name + "4", ""},
				{'P', "2", name + "5", name + "3 " + name + "4"},
				{'P', "3", name + "4", ""},
				{'P', "3", name + "5", name + "4"},
				{'P', "1", name + "2", ""},
				{'P', "1", name + "3", name + "2"},
				{'P', "7", name + "8", ""},
				{'P', "7", name + "6", name + "8="},
				{'p', "7", name + "6", ""},
				{'p', "7", name + "5", name + "6"},
				{'p', "7", name + "6 " + name + "5", ""},
				{'p', "7", name + "4", name + "5 " + name + "6"},
				{'p', "6", name + "5", ""},
				{'p', "6", name + "4", name + "5"},
				{'p', "8", name + "7", ""},
				{'p', "8", name + "6", name + "7"},
				{'p', "2", name + "1", ""},
				{'p', "2", name + "3", name + "1="},
			} {
				p := with(alone(sample.Piece(c.letter), sample.Square(name+c.at)), x, c.things)
				goes(t, string(c.letter)+" blocked", p, name+c.at, c.want)
			}
		}
	}
}

// TestPawnsTake has each thing on the squares that a pawn attacks, and on those beside them.
func TestPawnsTake(t *testing.T) { // P9.1
	for _, x := range things() {
		for _, c := range []struct {
			letter                       byte
			at, things, taken, elsewhere string
		}{
			{'P', "e4", "d5", "d5 e5", "e5"},
			{'P', "e4", "f5", "e5 f5", "e5"},
			{'P', "e4", "d5 f5", "d5 e5 f5", "e5"},
			{'P', "e4", "c5 d4 f4 d3 e3 f3 g5 d6 e6 f6", "e5", "e5"},
			{'P', "e4", "d5 e5 f5", "d5 f5", ""},
			{'P', "e2", "d3 f3", "d3 e3 f3 e4", "e3 e4"},
			{'P', "e2", "d3 e3 f3", "d3 f3", ""},
			{'P', "a4", "b5 h4 h5 h6", "a5 b5", "a5"},
			{'P', "h4", "g5 a4 a5 a6", "g5 h5", "h5"},
			{'P', "e1", "d2 f2", "d2 e2 f2", "e2"},
			{'P', "e7", "d8 f8", "d8= e8= f8=", "e8="},
			{'P', "a7", "b8", "a8= b8=", "a8="},
			{'P', "h7", "g8 h8", "g8=", ""},
			{'p', "e5", "d4", "d4 e4", "e4"},
			{'p', "e5", "f4", "e4 f4", "e4"},
			{'p', "e5", "d4 f4", "d4 e4 f4", "e4"},
			{'p', "e5", "c4 d5 f5 d6 e6 f6 g4 d3 e3 f3", "e4", "e4"},
			{'p', "e5", "d4 e4 f4", "d4 f4", ""},
			{'p', "e7", "d6 f6", "e5 d6 e6 f6", "e5 e6"},
			{'p', "e7", "d6 e6 f6", "d6 f6", ""},
			{'p', "a5", "b4 h5 h4 h3", "a4 b4", "a4"},
			{'p', "h5", "g4 a5 a4 a3", "g4 h4", "h4"},
			{'p', "e8", "d7 f7", "d7 e7 f7", "e7"},
			{'p', "e2", "d1 f1", "d1= e1= f1=", "e1="},
			{'p', "h2", "g1", "g1= h1=", "h1="},
			{'p', "a2", "b1 a1", "b1=", ""},
		} {
			pawn := sample.Piece(c.letter)
			want := c.elsewhere
			if x.Side == 1-pawn.Side {
				want = c.taken
			}
			goes(t, string(c.letter)+" takes", with(alone(pawn, sample.Square(c.at)), x, c.things), c.at, want)
		}
	}
}

func TestPawnsEnd(t *testing.T) { // P9.1
	for _, c := range []both{
		{"straight on", "e7P", "e7", "e8=", "e2p", "e2", "e1="},
		{"by taking, back", "e7P d8r e8r", "e7", "d8=", "e2p d1R e1R", "e2", "d1="},
		{"by taking, on", "e7P f8q e8q", "e7", "f8=", "e2p f1Q e1Q", "e2", "f1="},
		{"by taking a king", "e7P f8k e8K", "e7", "f8=", "e2p f1K e1k", "e2", "f1="},
		{"all ways", "e7P d8n f8b", "e7", "d8= e8= f8=", "e2p d1N f1B", "e2", "d1= e1= f1="},
		{"no way", "e7P d8N e8n f8B", "e7", "", "e2p d1n e1N f1b", "e2", ""},
		{"in a corner", "a7P b8r", "a7", "a8= b8=", "h2p g1R", "h2", "g1= h1="},
	} {
		c.ask(t)
	}
	from(t, "by numbers, white", alone(sample.Piece('P'), 52), 52, []api.Move{
		{From: 52, To: 60, Becomes: api.Knight}, {From: 52, To: 60, Becomes: api.Bishop}, {From: 52, To: 60, Becomes: api.Rook}, {From: 52, To: 60, Becomes: api.Queen}})
	from(t, "by numbers, black", alone(sample.Piece('p'), 12), 12, []api.Move{
		{From: 12, To: 4, Becomes: api.Knight}, {From: 12, To: 4, Becomes: api.Bishop}, {From: 12, To: 4, Becomes: api.Rook}, {From: 12, To: 4, Becomes: api.Queen}})
	// A rook comes to the end as it is, and a pawn to the rank where it began.
	goes(t, "a rook", sample.Set(sample.Bare(), "e7R e6P d7N f7N"), "e7", "e8")
	goes(t, "a king", sample.Black(sample.Set(sample.Bare(), "a2k a3p b3p b2n")), "a2", "a1 b1")
	goes(t, "to the own second rank", sample.Set(sample.Bare(), "e1P d2p f2p"), "e1", "d2 e2 f2")
	goes(t, "to the own second rank", sample.Black(sample.Set(sample.Bare(), "e8p d7P f7P")), "e8", "d7 e7 f7")
}

func TestPawnsTakeOver(t *testing.T) { // P9.1
	for _, c := range []struct {
		what, puts, over, at, want string
		side                       api.Side
	}{
		{"back", "e5P d5p", "d6", "e5", "d6 e6", 0},
		{"on", "e5P f5p", "f6", "e5", "e6 f6", 0},
		{"blocked ahead", "e5P f5p e6n", "f6", "e5", "f6", 0},
		{"at the edge", "b5P a5p", "a6", "b5", "a6 b6", 0},
		{"black's, back", "d4p c4P", "c3", "d4", "c3 d3", 1},
		{"black's, on", "d4p e4P", "e3", "d4", "d3 e3", 1},
		{"black's, at the edge", "g4p h4P", "h3", "g4", "g3 h3", 1},
		{"with nothing beside", "e5P", "d6", "e5", "d6 e6", 0},
		{"with its own beside", "e5P d5P", "d6", "e5", "d6 e6", 0},
		{"and takes on the other square", "e5P d5p f6q", "d6", "e5", "d6 e6 f6", 0},
		{"not ahead of it", "d5P", "d6", "d5", "d6", 0},
		{"not ahead of it, with something there", "d5P d6n", "d6", "d5", "", 0},
		{"not beside it", "e6P", "d6", "e6", "e7", 0},
		{"not behind it", "e7P", "d6", "e7", "e8=", 0},
		{"not two files on", "f5P d5p", "d6", "f5", "f6", 0},
		{"not two ranks on", "e4P", "d6", "e4", "e5", 0},
		{"not over the edge", "h5P", "a6", "h5", "h6", 0},
		{"not over the edge", "h5P", "a7", "h5", "h6", 0},
		{"not white's way, of black", "e6p", "d7", "e6", "e5", 1},
		{"not black's way, of white", "e6P", "d5", "e6", "e7", 0},
		{"not another square", "e5P d5p f5p", "a6", "e5", "e6", 0},
		{"none", "e5P d5p f5p", "", "e5", "e6", 0},
		{"its own on it", "e5P d6N", "d6", "e5", "e6", 0},
		{"the other's on it", "e5P d6n", "d6", "e5", "d6 e6", 0},
		{"its own side's no piece on it", "e5P d6?", "d6", "e5", "e6", 0},
		{"the other side's no piece on it", "e5P d6!", "d6", "e5", "d6 e6", 0},
		{"black's, its own on it", "d4p e3n", "e3", "d4", "d3", 1},
		{"black's, the other's on it", "d4p e3N", "e3", "d4", "d3 e3", 1},
		{"black's, its own side's no piece on it", "d4p e3!", "e3", "d4", "d3", 1},
		{"black's, the other side's no piece on it", "d4p e3?", "e3", "d4", "d3 e3", 1},
		{"at the end", "e7P", "f8", "e7", "e8= f8=", 0},
		{"at the end, black's", "e2p", "d1", "e2", "d1= e1=", 1},
		{"from the first rank", "e2P", "d3", "e2", "d3 e3 e4", 0},
		{"from rank 0", "e1P", "f2", "e1", "e2 f2", 0},
		{"from rank 7, black's", "e8p", "d7", "e8", "d7 e7", 1},
		{"a knight", "f5N d5p", "d6", "f5", "e3 g3 d4 h4 d6 h6 e7 g7", 0},
		{"a king", "e5K d5p", "d6", "e5", "d4 e4 f4 d5 f5 d6 e6 f6", 0},
	} {
		p := sample.Set(sample.Bare(), c.puts)
		p.Side, p.Over = c.side, sample.Square(c.over)
		goes(t, "takes over "+c.what, p, c.at, c.want)
	}
	// What is of neither side stands on it, and is not the other side's.
	for _, side := range sample.WrongSides() {
		p := sample.Set(sample.Bare(), "e5P d5p")
		p.Over, p.Squares[43] = 43, api.Piece{Kind: api.Knight, Side: side}
		goes(t, "neither side's on Over", p, "e5", "e6")
	}
}

// TestOverAnywhere has each Over for a pawn on each square.
func TestOverAnywhere(t *testing.T) { // P9.1
	for _, letter := range []byte("Pp") {
		x := sample.Piece(letter)
		on := 8 - 16*int(x.Side)
		for s := range 64 {
			plain := moves.From(alone(x, s), s)
			for _, over := range append(squares(), sample.WrongSquares()...) {
				p := alone(x, s)
				p.Over = over
				want := slices.Clone(plain)
				slants := over == s+on-1 && s%8 > 0 || over == s+on+1 && s%8 < 7
				if ends := over < 8 || over >= 56; slants && 0 <= over && over < 64 && ends == (over/8 == 7*(1-int(x.Side))) {
					for becomes := api.Knight; becomes <= api.Queen && ends; becomes++ {
						want = append(want, api.Move{From: s, To: over, Becomes: becomes})
					}
					if !ends {
						want = append(want, api.Move{From: s, To: over})
					}
				}
				slices.SortFunc(want, func(a, b api.Move) int { return 64*(a.To-b.To) + int(a.Becomes-b.Becomes) })
				from(t, string(letter)+" with any Over", p, s, want)
			}
		}
	}
}

// squares are all that there are.
func squares() []int {
	var l []int
	for s := range 64 {
		l = append(l, s)
	}
	return l
}
