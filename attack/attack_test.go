package attack_test

import (
	"math"
	"math/rand"
	"slices"
	"strings"
	"testing"

	"zugzwang/api"
	"zugzwang/attack"
	"zugzwang/board"
)

// letters are the kinds from 1 on, white's in capitals.
const letters = "PNBRQKpnbrqk"

// odd stands in drawings for what is no piece, and not none.
var odd = api.Piece{Kind: 7, Side: 0}

func piece(letter byte) api.Piece {
	switch letter {
	case '.':
		return api.Piece{}
	case '?':
		return odd
	}
	n := strings.IndexByte(letters, letter)
	return api.Piece{Kind: api.Kind(n%6 + 1), Side: api.Side(n / 6)}
}

// sq is the square of a name.
func sq(name string) int { return int(name[0]-'a') + 8*int(name[1]-'1') }

// squares are those of names, rising.
func squares(names string) []int {
	var all []int
	for _, name := range strings.Fields(names) {
		all = append(all, sq(name))
	}
	slices.Sort(all)
	return all
}

// drawn is a position whose rows are given from rank 8 down, as one sees a board; white moves.
func drawn(rows ...string) api.Position {
	p := bare()
	for i, row := range rows {
		for file := range 8 {
			p.Squares[8*(7-i)+file] = piece(row[file])
		}
	}
	return p
}

func bare() api.Position {
	return api.Position{Over: -1, Full: 1}
}

func begin() api.Position {
	p := drawn("rnbqkbnr", "pppppppp", "........", "........", "........", "........", "PPPPPPPP", "RNBQKBNR")
	p.Castle = 15
	return p
}

// midst is a Spanish game behind castling, with knights, bishops, rooks and queens that look at each other.
func midst() api.Position {
	return drawn(
		"r.bq.rk.",
		"..p.bppp",
		"p.np.n..",
		".p..p...",
		"....P...",
		".BP..N.P",
		"PP.P.PP.",
		"RNBQR.K.")
}

// late has few pieces, which are in each other's way.
func late() api.Position {
	p := drawn(
		"....k...",
		".R...p..",
		"...n....",
		"q...Q..b",
		"..P.....",
		"...B....",
		".p...N..",
		"K......r")
	p.Side = api.Black
	return p
}

// with is a position with one piece put, by its letter, on squares.
func with(p api.Position, letter byte, names string) api.Position {
	for _, s := range squares(names) {
		p.Squares[s] = piece(letter)
	}
	return p
}

func alone(x api.Piece, s int) api.Position {
	p := bare()
	p.Squares[s] = x
	return p
}

// wrongKinds are those of no piece.
func wrongKinds() []api.Kind {
	return []api.Kind{-1, -6, 0, 7, 8, 12, 255, 256, 257, 1 << 32, 1<<32 + 5, math.MaxInt, math.MinInt}
}

func wrongSides() []api.Side {
	return []api.Side{-1, 2, 3, -2, 4, 256, 257, 1 << 32, 1<<32 + 1, math.MaxInt, math.MinInt}
}

// wrongPieces are no pieces, and not none.
func wrongPieces() []api.Piece {
	var all []api.Piece
	for _, k := range wrongKinds() {
		for _, s := range append(wrongSides(), api.White, api.Black) {
			if k != 0 || s != 0 {
				all = append(all, api.Piece{Kind: k, Side: s})
			}
		}
	}
	for k := api.Pawn; k <= api.King; k++ {
		for _, s := range wrongSides() {
			all = append(all, api.Piece{Kind: k, Side: s})
		}
	}
	return all
}

// things are all pieces, and things that are no piece.
func things() []api.Piece {
	all := wrongPieces()
	for i := range letters {
		all = append(all, piece(letters[i]))
	}
	return all
}

// noSquares are numbers below and above the board's.
func noSquares() []int {
	return []int{-1, -2, -7, -8, -9, -63, -64, -65, 64, 65, 71, 72, 73, 127, 128, 1000, -1000,
		256, 1 << 32, 1<<32 + 28, -1 << 32, 1<<63 - 64, -1<<63 + 64, math.MaxInt - 1, math.MaxInt, math.MinInt, math.MinInt + 1}
}

// modelAttacks says by other means than the package whether what stands on a square attacks another one: by how far they lie apart.
func modelAttacks(p api.Position, from, to int) bool {
	x := p.Squares[from]
	if x.Side != 0 && x.Side != 1 {
		return false
	}
	files, ranks := to%8-from%8, to/8-from/8
	far, near := max(files, -files, ranks, -ranks), min(max(files, -files), max(ranks, -ranks))
	clear := func() bool {
		for n := 1; n < far; n++ {
			if p.Squares[from+n*(files+8*ranks)/far] != (api.Piece{}) {
				return false
			}
		}
		return true
	}
	switch x.Kind {
	case 1:
		return ranks == 1-2*int(x.Side) && files*files == 1
	case 2:
		return far == 2 && near == 1
	case 3:
		return far > 0 && near == far && clear()
	case 4:
		return far > 0 && near == 0 && clear()
	case 5:
		return far > 0 && (near == far || near == 0) && clear()
	case 6:
		return far == 1
	}
	return false
}

func modelFrom(p api.Position, from int) []int {
	var all []int
	for to := range 64 {
		if modelAttacks(p, from, to) {
			all = append(all, to)
		}
	}
	return all
}

func modelTo(p api.Position, to int, by api.Side) []int {
	var all []int
	for from := range 64 {
		if p.Squares[from].Side == by && modelAttacks(p, from, to) {
			all = append(all, from)
		}
	}
	return all
}

func modelCheck(p api.Position, s api.Side) bool {
	for at, x := range p.Squares {
		if x == (api.Piece{Kind: 6, Side: s}) && (s == 0 || s == 1) && len(modelTo(p, at, 1-s)) > 0 {
			return true
		}
	}
	return false
}

// scattered has anything on its squares, also what is no piece, and is anything else but right.
func scattered(r *rand.Rand) api.Position {
	p := api.Position{Side: api.Side(r.Intn(4) - 1), Castle: api.Castle(r.Intn(24) - 4), Over: r.Intn(80) - 8, Half: r.Intn(3000) - 100, Full: r.Intn(30000) - 100}
	wrong, dense := wrongPieces(), r.Intn(9)+1
	for s := range p.Squares {
		switch {
		case r.Intn(10) >= dense:
		case r.Intn(12) == 0:
			p.Squares[s] = wrong[r.Intn(len(wrong))]
		default:
			p.Squares[s] = piece(letters[r.Intn(len(letters))])
		}
	}
	return p
}

func from(t *testing.T, p api.Position, s int, want []int) {
	t.Helper()
	if got := attack.From(p, s); !slices.Equal(got, want) {
		t.Errorf("%v on %d attacks %v, want %v", p.Squares[s], s, got, want)
	}
}

func to(t *testing.T, p api.Position, s int, by api.Side, want []int) {
	t.Helper()
	if got := attack.To(p, s, by); !slices.Equal(got, want) {
		t.Errorf("%d is attacked from %v, want %v", s, got, want)
	}
}

func check(t *testing.T, what string, p api.Position, s api.Side, want bool) {
	t.Helper()
	if got := attack.Check(p, s); got != want {
		t.Errorf("%s: check of %d is %v, want %v", what, s, got, want)
	}
}

func TestBegin(t *testing.T) { // P7.1
	p := begin()
	for name, want := range map[string]string{
		"g1": "e2 f3 h3", "b1": "a3 c3 d2", "a1": "b1 a2", "h1": "g1 h2", "c1": "b2 d2", "f1": "e2 g2",
		"d1": "c1 e1 c2 d2 e2", "e1": "d1 f1 d2 e2 f2", "a2": "b3", "e2": "d3 f3", "h2": "g3",
		"g8": "e7 f6 h6", "b8": "d7 a6 c6", "a8": "a7 b8", "h8": "h7 g8", "c8": "b7 d7", "f8": "e7 g7",
		"d8": "c7 d7 e7 c8 e8", "e8": "d7 e7 f7 d8 f8", "a7": "b6", "d7": "c6 e6", "h7": "g6",
		"e4": "", "a3": "", "h6": "",
	} {
		from(t, p, sq(name), squares(want))
	}
	var pawns []int
	for s := 8; s <= 15; s++ {
		pawns = append(pawns, attack.From(p, s)...)
	}
	slices.Sort(pawns)
	if pawns = slices.Compact(pawns); !slices.Equal(pawns, squares("a3 b3 c3 d3 e3 f3 g3 h3")) {
		t.Errorf("white's pawns attack %v", pawns)
	}
	for _, by := range []api.Side{api.White, api.Black} {
		to(t, p, sq("e4"), by, nil)
		if attack.Is(p, by, sq("e4")) || attack.Check(p, by) {
			t.Error("e4, or a king, is attacked")
		}
	}
	to(t, p, sq("f3"), api.White, squares("g1 e2 g2"))
	to(t, p, sq("f3"), api.Black, nil)
	to(t, p, sq("d2"), api.White, squares("b1 c1 d1 e1"))
	to(t, p, sq("d8"), api.Black, squares("e8"))
	to(t, p, sq("a1"), api.White, nil)
	to(t, p, sq("a6"), api.Black, squares("b7 b8"))
}

func TestMidst(t *testing.T) { // P7.1
	p := midst()
	for name, want := range map[string]string{
		"b3": "a4 c4 d5 e6 f7 c2 d1 a2", "f3": "e1 g1 d2 h2 d4 h4 e5 g5", "e1": "d1 f1 g1 e2 e3 e4", "d1": "c1 e1 c2 b3 d2 e2 f3", "g1": "f1 h1 f2 g2 h2",
		"e4": "d5 f5", "c3": "b4 d4", "h3": "g4", "a1": "b1 a2", "c1": "b2 d2", "b1": "a3 c3 d2",
		"c6": "b8 d8 a7 e7 a5 e5 b4 d4", "f6": "e8 g8 d7 h7 d5 h5 e4 g4", "e7": "d8 f8 d6 f6", "c8": "b7 a6 d7 e6 f5 g4 h3",
		"d8": "c8 e8 f8 d7 d6 c7 e7", "f8": "d8 e8 g8 f7", "g8": "f8 h8 f7 g7 h7", "a8": "b8 c8 a7 a6", "d6": "c5 e5", "a6": "b5", "b5": "a4 c4", "h7": "g6",
	} {
		from(t, p, sq(name), squares(want))
	}
	to(t, p, sq("e5"), api.White, squares("f3"))
	to(t, p, sq("e5"), api.Black, squares("c6 d6"))
	to(t, p, sq("d4"), api.White, squares("f3 c3"))
	to(t, p, sq("d4"), api.Black, squares("c6 e5"))
	to(t, p, sq("f7"), api.White, squares("b3"))
	to(t, p, sq("f7"), api.Black, squares("f8 g8"))
	to(t, p, sq("h3"), api.Black, squares("c8"))
	to(t, p, sq("h3"), api.White, squares("g2"))
	to(t, p, sq("d5"), api.White, squares("e4 b3"))
	to(t, p, sq("a3"), api.Black, nil)
	check(t, "in the midst", p, api.White, false)
	check(t, "in the midst", p, api.Black, false)
}

func TestLate(t *testing.T) { // P7.1, P7.2
	p := late()
	from(t, p, sq("a5"), squares("b5 c5 d5 e5 a1 a2 a3 a4 a6 a7 a8 b6 c7 d8 b4 c3 d2 e1"))
	from(t, p, sq("e5"), squares("a5 b5 c5 d5 f5 g5 h5 e1 e2 e3 e4 e6 e7 e8 d6 f6 g7 h8 d4 c3 b2 f4 g3 h2"))
	from(t, p, sq("h5"), squares("g6 f7 g4 f3 e2 d1"))
	from(t, p, sq("h1"), squares("a1 b1 c1 d1 e1 f1 g1 h2 h3 h4 h5"))
	from(t, p, sq("b7"), squares("a7 c7 d7 e7 f7 b8 b6 b5 b4 b3 b2"))
	from(t, p, sq("b2"), squares("a1 c1"))
	from(t, p, sq("a1"), squares("a2 b1 b2"))
	from(t, p, sq("d3"), squares("c4 e4 f5 g6 h7 c2 b1 e2 f1"))
	to(t, p, sq("a1"), api.Black, squares("a5 b2 h1"))
	to(t, p, sq("e8"), api.White, squares("e5"))
	to(t, p, sq("b5"), api.White, squares("c4 e5 b7"))
	to(t, p, sq("b5"), api.Black, squares("a5 d6"))
	check(t, "three attack", p, api.White, true)
	check(t, "the queen attacks", p, api.Black, true)
}

// TestBare has the squares that each kind attacks on a bare board, as x in a drawing: in a corner, at an edge, in the middle.
func TestBare(t *testing.T) { // P7.1
	for _, c := range []struct {
		letters string
		at      string
		rows    []string
	}{
		{"Nn", "a1", []string{"........", "........", "........", "........", "........", ".x......", "..x.....", "........"}},
		{"Nn", "h8", []string{"........", ".....x..", "......x.", "........", "........", "........", "........", "........"}},
		{"Nn", "b8", []string{"........", "...x....", "x.x.....", "........", "........", "........", "........", "........"}},
		{"Nn", "a4", []string{"........", "........", ".x......", "..x.....", "........", "..x.....", ".x......", "........"}},
		{"Nn", "e4", []string{"........", "........", "...x.x..", "..x...x.", "........", "..x...x.", "...x.x..", "........"}},
		{"Kk", "a1", []string{"........", "........", "........", "........", "........", "........", "xx......", ".x......"}},
		{"Kk", "h1", []string{"........", "........", "........", "........", "........", "........", "......xx", "......x."}},
		{"Kk", "h8", []string{"......x.", "......xx", "........", "........", "........", "........", "........", "........"}},
		{"Kk", "d8", []string{"..x.x...", "..xxx...", "........", "........", "........", "........", "........", "........"}},
		{"Kk", "e4", []string{"........", "........", "........", "...xxx..", "...x.x..", "...xxx..", "........", "........"}},
		{"Rr", "a1", []string{"x.......", "x.......", "x.......", "x.......", "x.......", "x.......", "x.......", ".xxxxxxx"}},
		{"Rr", "h4", []string{".......x", ".......x", ".......x", ".......x", "xxxxxxx.", ".......x", ".......x", ".......x"}},
		{"Rr", "e4", []string{"....x...", "....x...", "....x...", "....x...", "xxxx.xxx", "....x...", "....x...", "....x..."}},
		{"Bb", "a8", []string{"........", ".x......", "..x.....", "...x....", "....x...", ".....x..", "......x.", ".......x"}},
		{"Bb", "d1", []string{"........", "........", "........", ".......x", "x.....x.", ".x...x..", "..x.x...", "........"}},
		{"Bb", "e4", []string{"x.......", ".x.....x", "..x...x.", "...x.x..", "........", "...x.x..", "..x...x.", ".x.....x"}},
		{"Qq", "h1", []string{"x......x", ".x.....x", "..x....x", "...x...x", "....x..x", ".....x.x", "......xx", "xxxxxxx."}},
		{"Qq", "a5", []string{"x..x....", "x.x.....", "xx......", ".xxxxxxx", "xx......", "x.x.....", "x..x....", "x...x..."}},
		{"Qq", "e4", []string{"x...x...", ".x..x..x", "..x.x.x.", "...xxx..", "xxxx.xxx", "...xxx..", "..x.x.x.", ".x..x..x"}},
		{"P", "e4", []string{"........", "........", "........", "...x.x..", "........", "........", "........", "........"}},
		{"p", "e4", []string{"........", "........", "........", "........", "........", "...x.x..", "........", "........"}},
	} {
		var want []int
		for s := range 64 {
			if c.rows[7-s/8][s%8] == 'x' {
				want = append(want, s)
			}
		}
		for i := range c.letters {
			x := piece(c.letters[i])
			p := alone(x, sq(c.at))
			from(t, p, sq(c.at), want)
			for s := range 64 {
				to(t, p, s, 1-x.Side, nil)
				if slices.Contains(want, s) {
					to(t, p, s, x.Side, []int{sq(c.at)})
				} else {
					to(t, p, s, x.Side, nil)
				}
			}
		}
	}
}

func TestBareEverywhere(t *testing.T) { // P7.1
	for i := range letters {
		for s := range 64 {
			p := alone(piece(letters[i]), s)
			from(t, p, s, modelFrom(p, s))
			for other := range 64 {
				if other != s {
					from(t, p, other, nil)
				}
			}
		}
	}
}

func TestPawns(t *testing.T) { // P7.1
	for _, c := range []struct {
		letter   byte
		at, want string
	}{
		{'P', "a1", "b2"}, {'P', "e1", "d2 f2"}, {'P', "h1", "g2"}, {'P', "a2", "b3"}, {'P', "e2", "d3 f3"}, {'P', "h2", "g3"},
		{'P', "a4", "b5"}, {'P', "h5", "g6"}, {'P', "a7", "b8"}, {'P', "e7", "d8 f8"}, {'P', "h7", "g8"}, {'P', "a8", ""}, {'P', "e8", ""}, {'P', "h8", ""},
		{'p', "a8", "b7"}, {'p', "e8", "d7 f7"}, {'p', "h8", "g7"}, {'p', "a7", "b6"}, {'p', "e7", "d6 f6"}, {'p', "h7", "g6"},
		{'p', "a4", "b3"}, {'p', "h5", "g4"}, {'p', "a2", "b1"}, {'p', "e2", "d1 f1"}, {'p', "h2", "g1"}, {'p', "a1", ""}, {'p', "e1", ""}, {'p', "h1", ""},
	} {
		x := piece(c.letter)
		p := alone(x, sq(c.at))
		from(t, p, sq(c.at), squares(c.want))
		for _, s := range squares(c.want) {
			to(t, p, s, x.Side, []int{sq(c.at)})
			to(t, p, s, 1-x.Side, nil)
		}
		// What stands there, or ahead, is no matter, nor where a pawn went over.
		for _, letter := range []byte("PpQqKk?") {
			q := p
			for s := range q.Squares {
				if s != sq(c.at) {
					q.Squares[s] = piece(letter)
				}
			}
			q.Over = sq("e3")
			from(t, q, sq(c.at), squares(c.want))
		}
	}
}

// TestInTheWay puts something on a way: it is attacked, of whichever side it is, and what is behind it is not.
func TestInTheWay(t *testing.T) { // P7.1
	for _, c := range []struct {
		letters, at, way, rest string
	}{
		{"Rr", "a1", "b1 c1 d1 e1 f1 g1 h1", "a2 a3 a4 a5 a6 a7 a8"},
		{"Rr", "h8", "h7 h6 h5 h4 h3 h2 h1", "a8 b8 c8 d8 e8 f8 g8"},
		{"Rr", "d5", "d6 d7 d8", "d4 d3 d2 d1 a5 b5 c5 e5 f5 g5 h5"},
		{"Rr", "d5", "c5 b5 a5", "d4 d3 d2 d1 d6 d7 d8 e5 f5 g5 h5"},
		{"Bb", "a1", "b2 c3 d4 e5 f6 g7 h8", ""},
		{"Bb", "d5", "c6 b7 a8", "e6 f7 g8 e4 f3 g2 h1 c4 b3 a2"},
		{"Bb", "d5", "e4 f3 g2 h1", "c6 b7 a8 e6 f7 g8 c4 b3 a2"},
		{"Bb", "d5", "c4 b3 a2", "c6 b7 a8 e6 f7 g8 e4 f3 g2 h1"},
		{"Qq", "c1", "d2 e3 f4 g5 h6", "b2 a3 a1 b1 d1 e1 f1 g1 h1 c2 c3 c4 c5 c6 c7 c8"},
		{"Qq", "c1", "c2 c3 c4 c5 c6 c7 c8", "d2 e3 f4 g5 h6 b2 a3 a1 b1 d1 e1 f1 g1 h1"},
	} {
		way := strings.Fields(c.way)
		for i := range c.letters {
			slider := piece(c.letters[i])
			for n, name := range way {
				seen := squares(c.rest + " " + strings.Join(way[:n+1], " "))
				for _, x := range things() {
					p := alone(slider, sq(c.at))
					p.Squares[sq(name)] = x
					from(t, p, sq(c.at), seen)
					for _, behind := range way[n+1:] {
						if slices.Contains(attack.To(p, sq(behind), slider.Side), sq(c.at)) {
							t.Errorf("%v on %s attacks %s through %v on %s", slider, c.at, behind, x, name)
						}
					}
				}
			}
		}
	}
}

func TestNoneIsInNoWay(t *testing.T) { // P7.1
	// A thing of no kind of white's is none; of another side it stands.
	p := with(bare(), 'R', "a1")
	p.Squares[sq("a4")] = api.Piece{Kind: api.NoKind, Side: api.White}
	from(t, p, sq("a1"), squares("a2 a3 a4 a5 a6 a7 a8 b1 c1 d1 e1 f1 g1 h1"))
	p.Squares[sq("a4")] = api.Piece{Kind: api.NoKind, Side: api.Black}
	from(t, p, sq("a1"), squares("a2 a3 a4 b1 c1 d1 e1 f1 g1 h1"))
	from(t, p, sq("a4"), nil)
}

func TestNoPieces(t *testing.T) { // P7.1
	for _, x := range wrongPieces() {
		for _, name := range []string{"a1", "h8", "e4", "d1", "a5", "e2"} {
			p := begin()
			p.Squares[sq(name)] = x
			from(t, p, sq(name), nil)
			q := alone(x, sq(name))
			from(t, q, sq(name), nil)
			for _, by := range []api.Side{api.White, api.Black, x.Side} {
				for s := range 64 {
					if got := attack.To(q, s, by); len(got) != 0 || attack.Is(q, by, s) {
						t.Fatalf("%v on %s attacks %d: %v", x, name, s, got)
					}
				}
			}
		}
	}
}

func TestFromNone(t *testing.T) { // P7.1
	for _, s := range noSquares() {
		for _, p := range []api.Position{begin(), midst(), late(), bare(), {}} {
			if got := attack.From(p, s); len(got) != 0 {
				t.Errorf("From(.., %d) = %v", s, got)
			}
		}
	}
	for _, p := range []api.Position{begin(), midst(), late(), bare(), {}} {
		for s, x := range p.Squares {
			if got := attack.From(p, s); x == (api.Piece{}) && len(got) != 0 {
				t.Errorf("of nothing on %d: %v", s, got)
			}
		}
	}
}

func TestToNone(t *testing.T) { // P7.1
	queens := bare()
	for s := range queens.Squares {
		queens.Squares[s] = api.Piece{Kind: api.Queen, Side: api.Side(s % 2)}
	}
	for _, s := range noSquares() {
		for _, p := range []api.Position{begin(), midst(), queens} {
			for _, by := range []api.Side{api.White, api.Black, 2} {
				if got := attack.To(p, s, by); len(got) != 0 || attack.Is(p, by, s) {
					t.Errorf("To(.., %d, %d) = %v", s, by, got)
				}
			}
		}
	}
}

func TestWrongSides(t *testing.T) { // P7.1, P7.2
	for _, by := range wrongSides() {
		own := begin()
		for s, x := range own.Squares {
			if x.Kind != 0 {
				own.Squares[s].Side = by
			}
		}
		mixed := begin()
		for s, x := range mixed.Squares {
			if x.Side == api.White && x.Kind != 0 {
				mixed.Squares[s].Side = by
			}
		}
		facing := drawn("....k...", "........", "........", "........", "....Q...", "........", "........", "....K...")
		facing.Squares[sq("e1")].Side = by
		behind := drawn("....k...", "........", "........", "........", "....q...", "........", "........", "....K...")
		behind.Squares[sq("e1")].Side = by
		for _, p := range []api.Position{begin(), own, mixed, facing, behind} {
			for s := range 64 {
				to(t, p, s, by, nil)
				if attack.Is(p, by, s) {
					t.Errorf("the side %d attacks %d", by, s)
				}
			}
			check(t, "no side", p, by, false)
		}
		check(t, "a king of another side", facing, api.White, false)
		check(t, "a king of another side", facing, api.Black, true)
		check(t, "a king of another side", behind, api.White, false)
		check(t, "a king of another side", behind, api.Black, false)
	}
}

func TestIs(t *testing.T) { // P7.1
	p := begin()
	e4, f3, a3, h3, f6 := sq("e4"), sq("f3"), sq("a3"), sq("h3"), sq("f6")
	for i, c := range []struct {
		by      api.Side
		squares []int
		want    bool
	}{
		{api.White, nil, false}, {api.White, []int{}, false}, {api.Black, nil, false},
		{api.White, []int{f3}, true}, {api.White, []int{e4}, false}, {api.White, []int{f6}, false},
		{api.Black, []int{f6}, true}, {api.Black, []int{f3}, false}, {2, []int{f3, f6}, false}, {-1, []int{f3, f6}, false},
		{api.White, []int{e4, f3}, true}, {api.White, []int{f3, e4}, true}, {api.White, []int{f3, f3}, true}, {api.White, []int{e4, e4}, false},
		{api.White, []int{e4, f6, e4, 36, 35}, false}, {api.White, []int{e4, f6, e4, 36, h3}, true}, {api.White, []int{a3, f6, e4}, true},
		{api.White, []int{-1}, false}, {api.White, []int{64}, false}, {api.White, []int{-1, 64, math.MaxInt, math.MinInt, 1 << 32}, false},
		{api.White, []int{-1, f3}, true}, {api.White, []int{f3, 64}, true}, {api.White, []int{-1, e4, 64}, false}, {api.White, []int{64, e4, -9, 1<<32 + 21, a3, -1}, true},
		{api.Black, []int{64, e4, f6, -1}, true}, {api.Black, []int{64, e4, f3, -1}, false}, {api.White, noSquares(), false},
	} {
		if got := attack.Is(p, c.by, c.squares...); got != c.want {
			t.Errorf("%d: Is(.., %d, %v) = %v", i, c.by, c.squares, got)
		}
	}
	if attack.Is(p, api.White) || attack.Is(p, api.Black) {
		t.Error("one of no squares is attacked")
	}
	var all []int
	for s := range 64 {
		all = append(all, s)
	}
	if !attack.Is(p, api.White, all...) || !attack.Is(p, api.Black, all...) || attack.Is(bare(), api.White, all...) || attack.Is(p, api.White, all[24:]...) || attack.Is(p, api.Black, all[:40]...) {
		t.Error("all squares, or many")
	}
}

func TestCheckByEachKind(t *testing.T) { // P7.2
	// A king on e4 is in check by a piece on the squares of gives, and not on those of givesNot.
	for _, c := range []struct {
		kind            byte
		gives, givesNot string
	}{
		{'n', "d6 f6 c5 g5 c3 g3 d2 f2", "e5 d5 c6 a1 e6"},
		{'b', "d5 h7 b1 a8 h1", "e5 d4 e8 a4 f6 g5"},
		{'r', "e5 e8 a4 d4 f4 h4 e1 e2", "d5 f3 a8 h1 d6"},
		{'q', "d5 h7 e8 a4 h4 b1 h1 e1", "d6 f6 c5 a1 h8 b8"},
		{'k', "d5 e5 f5 d4 f4 d3 e3 f3", "e6 c4 g5 e2 a8"},
	} {
		for _, name := range strings.Fields(c.gives) {
			p := with(with(bare(), 'K', "e4"), c.kind, name)
			check(t, string(c.kind)+" on "+name, p, api.White, true)
			check(t, string(c.kind)+" on "+name, p, api.Black, c.kind == 'k')
			own := with(with(bare(), 'K', "e4"), c.kind-'a'+'A', name)
			check(t, "its own on "+name, own, api.White, false)
			black := with(with(bare(), 'k', "e4"), c.kind-'a'+'A', name)
			check(t, "of white on "+name, black, api.Black, true)
			check(t, "of white on "+name, black, api.White, c.kind == 'k')
		}
		for _, name := range strings.Fields(c.givesNot) {
			check(t, string(c.kind)+" on "+name, with(with(bare(), 'K', "e4"), c.kind, name), api.White, false)
		}
	}
	for s := range 64 {
		if s == sq("e4") {
			continue
		}
		white, black := alone(piece('K'), sq("e4")), alone(piece('k'), sq("e4"))
		white.Squares[s], black.Squares[s] = piece('p'), piece('P')
		check(t, "a black pawn", white, api.White, s == sq("d5") || s == sq("f5"))
		check(t, "a white pawn", black, api.Black, s == sq("d3") || s == sq("f3"))
	}
}

func TestCheckInTheWay(t *testing.T) { // P7.2
	p := drawn("....k...", "........", "........", "........", "....R...", "........", "........", "....K...")
	check(t, "a rook", p, api.Black, true)
	for _, letter := range []byte("PNBRQpnbrq?") {
		check(t, "something in the way", with(p, letter, "e6"), api.Black, letter == 'R' || letter == 'Q')
		check(t, "something behind the rook", with(p, letter, "e2"), api.Black, true)
		check(t, "something beside", with(p, letter, "a3"), api.Black, true)
	}
	fool := drawn("rnb.kbnr", "pppp.ppp", "........", "....p...", "......Pq", ".....P..", "PPPPP..P", "RNBQKBNR")
	check(t, "mate in two", fool, api.White, true)
	check(t, "mate in two", fool, api.Black, false)
	check(t, "a pawn in the way", with(fool, 'P', "g3"), api.White, false)
}

func TestCheckByKings(t *testing.T) { // P7.2
	rook := with(bare(), 'r', "a1")
	check(t, "no king", rook, api.White, false)
	check(t, "no king", rook, api.Black, false)
	check(t, "no king", bare(), api.White, false)
	check(t, "no king", api.Position{}, api.Black, false)
	check(t, "one king", with(rook, 'K', "a8"), api.White, true)
	check(t, "one king", with(rook, 'K', "b8"), api.White, false)
	check(t, "the first of two", with(rook, 'K', "b1 c5"), api.White, true)
	check(t, "the last of two", with(rook, 'K', "d2 a6"), api.White, true)
	check(t, "both of two", with(rook, 'K', "a6 g1"), api.White, true)
	check(t, "none of two", with(rook, 'K', "b2 h8"), api.White, false)
	check(t, "its own kings", with(rook, 'k', "a6 g1"), api.Black, false)
	check(t, "kings side by side", with(with(bare(), 'K', "d4 a1"), 'k', "e5 h8"), api.White, true)
	check(t, "kings side by side", with(with(bare(), 'K', "d4 a1"), 'k', "e5 h8"), api.Black, true)
	check(t, "its own side by side", with(bare(), 'K', "d4 d5 d6"), api.White, false)
	many := bare()
	for s := range many.Squares {
		many.Squares[s] = piece('K')
	}
	check(t, "kings alone", many, api.White, false)
	check(t, "a knight among kings", with(many, 'n', "a1"), api.White, true)
	for _, x := range wrongPieces() {
		p := with(bare(), 'K', "e1")
		p.Squares[sq("e2")], p.Squares[sq("d2")] = x, x
		check(t, "beside what is no piece", p, api.White, false)
	}
}

// TestCheckWhateverElse changes all but what stands on the squares.
func TestCheckWhateverElse(t *testing.T) { // P7.2
	for _, p := range []api.Position{begin(), midst(), late()} {
		white, black := attack.Check(p, api.White), attack.Check(p, api.Black)
		for _, side := range append(wrongSides(), api.White, api.Black) {
			q := api.Position{Squares: p.Squares, Side: side, Castle: -3, Over: 99, Half: -1, Full: math.MinInt}
			check(t, "whatever else", q, api.White, white)
			check(t, "whatever else", q, api.Black, black)
			for s := range 64 {
				from(t, q, s, attack.From(p, s))
				to(t, q, s, api.Black, attack.To(p, s, api.Black))
			}
		}
	}
}

func TestByModel(t *testing.T) { // P7.1, P7.2
	r := rand.New(rand.NewSource(71))
	checks := 0
	for range 1500 {
		p := scattered(r)
		for s := range 64 {
			from(t, p, s, modelFrom(p, s))
			for _, by := range []api.Side{api.White, api.Black} {
				want := modelTo(p, s, by)
				to(t, p, s, by, want)
				if got := attack.Is(p, by, s); got != (len(want) > 0) {
					t.Errorf("Is(.., %d, %d) = %v", by, s, got)
				}
			}
		}
		for _, side := range []api.Side{api.White, api.Black, 2, -1} {
			want := modelCheck(p, side)
			check(t, "scattered", p, side, want)
			if want {
				checks++
			}
		}
		if t.Failed() {
			t.Fatalf("in %v", p)
		}
	}
	if checks < 1000 {
		t.Errorf("%d checks try little", checks)
	}
}

// TestFromAndTo asks all pairs of squares, by From and by To.
func TestFromAndTo(t *testing.T) { // P7.3
	r := rand.New(rand.NewSource(73))
	positions := []api.Position{begin(), midst(), late(), bare(), {}}
	for range 200 {
		positions = append(positions, scattered(r))
	}
	for _, p := range positions {
		var by [2][64][]int
		for s := range 64 {
			by[0][s], by[1][s] = attack.To(p, s, api.White), attack.To(p, s, api.Black)
		}
		for a := range 64 {
			attacked := attack.From(p, a)
			for b := range 64 {
				white, black := slices.Contains(by[0][b], a), slices.Contains(by[1][b], a)
				if white && black || (white || black) != slices.Contains(attacked, b) {
					t.Fatalf("%d and %d of %v", a, b, p)
				}
				if white && p.Squares[a].Side != api.White || black && p.Squares[a].Side != api.Black {
					t.Fatalf("%d is of another side in %v", a, p)
				}
			}
		}
	}
}

func turned(l []int) []int {
	var all []int
	for _, s := range l {
		all = append(all, s^56)
	}
	slices.Sort(all)
	return all
}

func TestTurned(t *testing.T) { // P7.3
	r := rand.New(rand.NewSource(37))
	positions := []api.Position{begin(), midst(), late(), bare()}
	for range 200 {
		positions = append(positions, scattered(r))
	}
	for _, p := range positions {
		q := board.Turn(p)
		for s := range 64 {
			from(t, q, s^56, turned(attack.From(p, s)))
			to(t, q, s^56, api.Black, turned(attack.To(p, s, api.White)))
			to(t, q, s^56, api.White, turned(attack.To(p, s, api.Black)))
			if attack.Is(q, api.Black, s^56) != attack.Is(p, api.White, s) {
				t.Errorf("%d turned", s)
			}
		}
		check(t, "turned", q, api.White, attack.Check(p, api.Black))
		check(t, "turned", q, api.Black, attack.Check(p, api.White))
		if t.Failed() {
			t.Fatalf("in %v", p)
		}
	}
}

func TestRising(t *testing.T) { // P7.1
	// Knights, kings and queens have what they attack, and what attacks from all ways, on both sides of them.
	star := drawn("...Q...Q", ".Q...N..", "..N.K.R.", "...P....", "Q..Q..QR", "..K.P...", "..N..B..", "Q..R..B.")
	for _, p := range []api.Position{begin(), midst(), late(), star, board.Turn(star)} {
		for s := range 64 {
			for _, l := range [][]int{attack.From(p, s), attack.To(p, s, api.White), attack.To(p, s, api.Black)} {
				for i := 1; i < len(l); i++ {
					if l[i-1] >= l[i] {
						t.Fatalf("%d: %v", s, l)
					}
				}
			}
		}
	}
}

func TestArgumentsStay(t *testing.T) { // R3
	given := append(make([]int, 0, 8), 28, 21, 28, -1)
	behind := given[:8]
	before := slices.Clone(behind)
	p := late()
	for s := -2; s < 66; s++ {
		attack.From(p, s)
		attack.To(p, s, api.White)
	}
	attack.Check(p, api.White)
	attack.Is(p, api.White, given...)
	attack.Is(p, 2, given...)
	if !slices.Equal(behind, before) || p != late() {
		t.Error("what was given was changed")
	}
}

func TestAnswersAreNew(t *testing.T) { // R3, R4
	for _, p := range []api.Position{begin(), midst(), late()} {
		for s := range 64 {
			for _, ask := range []func() []int{
				func() []int { return attack.From(p, s) },
				func() []int { return attack.To(p, s, api.White) },
				func() []int { return attack.To(p, s, api.Black) },
			} {
				first, second := ask(), ask()
				want := slices.Clone(first)
				for i := range first {
					first[i] = 99
				}
				_ = append(first, 99)
				if !slices.Equal(second, want) || !slices.Equal(ask(), want) {
					t.Fatalf("two answers of %d share memory, or are unlike: %v, want %v", s, second, want)
				}
			}
		}
	}
}
