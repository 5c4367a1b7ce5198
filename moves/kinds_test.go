package moves_test

import (
	"testing"

	"zugzwang/api"
	"zugzwang/sample"
)

// marked are moves from a square to those that have an x in a drawing.
func marked(at int, rows []string) []api.Move {
	var l []api.Move
	for s := range 64 {
		if rows[7-s/8][s%8] == 'x' {
			l = append(l, api.Move{From: at, To: s})
		}
	}
	return l
}

// TestOpen has each kind but pawns on an open board: in a corner, at an edge, in the middle.
func TestOpen(t *testing.T) { // P9.1
	for _, c := range []struct {
		letters, at string
		rows        []string
	}{
		{"Nn", "a1", []string{"........", "........", "........", "........", "........", ".x......", "..x.....", "........"}},
		{"Nn", "h1", []string{"........", "........", "........", "........", "........", "......x.", ".....x..", "........"}},
		{"Nn", "a8", []string{"........", "..x.....", ".x......", "........", "........", "........", "........", "........"}},
		{"Nn", "h8", []string{"........", ".....x..", "......x.", "........", "........", "........", "........", "........"}},
		{"Nn", "g5", []string{"........", ".....x.x", "....x...", "........", "....x...", ".....x.x", "........", "........"}},
		{"Nn", "d1", []string{"........", "........", "........", "........", "........", "..x.x...", ".x...x..", "........"}},
		{"Nn", "e4", []string{"........", "........", "...x.x..", "..x...x.", "........", "..x...x.", "...x.x..", "........"}},
		{"Kk", "a1", []string{"........", "........", "........", "........", "........", "........", "xx......", ".x......"}},
		{"Kk", "h1", []string{"........", "........", "........", "........", "........", "........", "......xx", "......x."}},
		{"Kk", "a8", []string{".x......", "xx......", "........", "........", "........", "........", "........", "........"}},
		{"Kk", "h8", []string{"......x.", "......xx", "........", "........", "........", "........", "........", "........"}},
		{"Kk", "h4", []string{"........", "........", "........", "......xx", "......x.", "......xx", "........", "........"}},
		{"Kk", "e1", []string{"........", "........", "........", "........", "........", "........", "...xxx..", "...x.x.."}},
		{"Kk", "e8", []string{"...x.x..", "...xxx..", "........", "........", "........", "........", "........", "........"}},
		{"Kk", "e4", []string{"........", "........", "........", "...xxx..", "...x.x..", "...xxx..", "........", "........"}},
		{"Rr", "a1", []string{"x.......", "x.......", "x.......", "x.......", "x.......", "x.......", "x.......", ".xxxxxxx"}},
		{"Rr", "h8", []string{"xxxxxxx.", ".......x", ".......x", ".......x", ".......x", ".......x", ".......x", ".......x"}},
		{"Rr", "h4", []string{".......x", ".......x", ".......x", ".......x", "xxxxxxx.", ".......x", ".......x", ".......x"}},
		{"Rr", "e4", []string{"....x...", "....x...", "....x...", "....x...", "xxxx.xxx", "....x...", "....x...", "....x..."}},
		{"Bb", "a8", []string{"........", ".x......", "..x.....", "...x....", "....x...", ".....x..", "......x.", ".......x"}},
		{"Bb", "a1", []string{".......x", "......x.", ".....x..", "....x...", "...x....", "..x.....", ".x......", "........"}},
		{"Bb", "d1", []string{"........", "........", "........", ".......x", "x.....x.", ".x...x..", "..x.x...", "........"}},
		{"Bb", "e4", []string{"x.......", ".x.....x", "..x...x.", "...x.x..", "........", "...x.x..", "..x...x.", ".x.....x"}},
		{"Qq", "h1", []string{"x......x", ".x.....x", "..x....x", "...x...x", "....x..x", ".....x.x", "......xx", "xxxxxxx."}},
		{"Qq", "a5", []string{"x..x....", "x.x.....", "xx......", ".xxxxxxx", "xx......", "x.x.....", "x..x....", "x...x..."}},
		{"Qq", "e4", []string{"x...x...", ".x..x..x", "..x.x.x.", "...xxx..", "xxxx.xxx", "...xxx..", "..x.x.x.", ".x..x..x"}},
	} {
		at := sample.Square(c.at)
		for i := range c.letters {
			from(t, c.letters+" on "+c.at, alone(sample.Piece(c.letters[i]), at), at, marked(at, c.rows))
		}
	}
}

// with puts a thing on squares.
func with(p api.Position, x api.Piece, squares string) api.Position {
	for _, m := range sample.To("a1", squares) {
		p.Squares[m.To] = x
	}
	return p
}

// TestInTheWay has own things and others in each kind's way. What is no piece but stands is its Side's, too.
func TestInTheWay(t *testing.T) { // P9.1
	for _, c := range []struct {
		letters, at, own, others, want string
	}{
		{"Rr", "d4", "d6 g4", "b4 d2", "d2 d3 b4 c4 e4 f4 d5"},
		{"Rr", "d4", "d5 c4 e4 d3", "", ""},
		{"Rr", "d4", "", "d5 c4 e4 d3", "d3 c4 e4 d5"},
		{"Rr", "a1", "a2", "b1", "b1"},
		{"Rr", "h8", "g8", "h5", "h5 h6 h7"},
		{"Rr", "h8", "g8 h7", "f8 h6", ""},
		{"Bb", "d4", "b6 f2", "f6 b2", "b2 c3 e3 c5 e5 f6"},
		{"Bb", "d4", "c3 e3", "c5 e5", "c5 e5"},
		{"Bb", "a1", "d4", "", "b2 c3"},
		{"Bb", "a1", "", "d4", "b2 c3 d4"},
		{"Bb", "h4", "g3", "f6", "g5 f6"},
		{"Qq", "d4", "d6 g4 b6 f2", "b4 d2 f6 b2", "b2 d2 c3 d3 e3 b4 c4 e4 f4 c5 d5 e5 f6"},
		{"Qq", "h1", "g1 h2", "g2", "g2"},
		{"Qq", "a5", "a4 b6", "a6 b5 b4", "b4 b5 a6"},
		{"Nn", "d4", "b3 e6 f5 d5 c3 e4", "c2 f3 b5 d3 c5", "c2 e2 f3 b5 c6"},
		{"Nn", "a1", "b3 a2 b2", "c2", "c2"},
		{"Nn", "g8", "e7", "h6 f7 h8", "f6 h6"},
		{"Nn", "h4", "g2 f3 f5 g6", "", ""},
		{"Kk", "d4", "c3 d5 e4", "e5 c4 d3", "d3 e3 c4 c5 e5"},
		{"Kk", "a1", "a2 b1", "b2", "b2"},
		{"Kk", "h5", "h6", "g4", "g4 h4 g5 g6"},
		{"Kk", "e8", "d8 f7", "d7 f8", "d7 e7 f8"},
	} {
		for i := range c.letters {
			x := sample.Piece(c.letters[i])
			for _, own := range things() {
				if own.Side != x.Side {
					continue
				}
				for _, other := range things() {
					if other.Side != x.Side {
						p := with(with(alone(x, sample.Square(c.at)), own, c.own), other, c.others)
						goes(t, c.letters+" in the way", p, c.at, c.want)
					}
				}
			}
		}
	}
}
