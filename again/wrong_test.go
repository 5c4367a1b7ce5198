package again_test

import (
	"math"
	"testing"

	"zugzwang/again"
	"zugzwang/api"
	"zugzwang/board"
	"zugzwang/legal"
	"zugzwang/sample"
)

// halves are numbers that Half may be, and others.
func halves() []int {
	return []int{0, 1, 7, 99, 100, 150, api.MaxHalf, api.MaxHalf + 1, -1, -100, 1 << 32, -1 << 32, math.MaxInt, math.MinInt}
}

// fulls are numbers that Full may be, and others.
func fulls() []int {
	return []int{1, 2, 80, api.MaxFull, api.MaxFull + 1, 0, -1, 1 << 32, 1<<32 + 1, math.MaxInt, math.MinInt}
}

// refuses asks what is answered of a position that may not be played on, of which no pawn may take over.
func refuses(t *testing.T, what string, p api.Position) {
	t.Helper()
	if legal.Position(p) {
		t.Fatalf("%s: %v may be played on", what, p)
	}
	if got := again.Over(p); got != api.NoSquare {
		t.Fatalf("%s: over %d, of %v", what, got, p)
	}
	if !again.Same(p, p) || again.Key(p) != again.Key(p) {
		t.Fatalf("%s: not the same as itself: %v", what, p)
	}
}

// others says whether two positions are unlike in what any two that are the same have in common.
func others(p, q api.Position) bool {
	return p.Squares != q.Squares || p.Side != q.Side || p.Castle != q.Castle
}

func TestNotRight(t *testing.T) { // P12.1
	for _, p := range bases() {
		for _, wrong := range sample.Spoilt(p) {
			q := wrong.Position
			refuses(t, wrong.What, q)
			if others(p, q) && (again.Same(p, q) || again.Same(q, p) || again.Key(p) == again.Key(q)) {
				t.Fatalf("%s: the same as one that is right: %v", wrong.What, q)
			}
		}
	}
	for _, c := range sample.OtherInCheck() {
		refuses(t, c.What, c.Position)
		refuses(t, c.What+", turned", board.Turn(c.Position))
	}
	refuses(t, "a bare board", sample.Bare())
	refuses(t, "a zero position", api.Position{})
}

// TestNotOver has an Over that is none, where a pawn would go there otherwise.
func TestNotOver(t *testing.T) { // P12.1
	for _, c := range []struct{ what, puts, over string }{
		{"something of the other side stands there", "e1K e8k d5p d6n e5P", "d6"},
		{"something of its own stands there", "e1K e8k d5p d6N e5P", "d6"},
		{"something stands where the pawn began", "e1K e8k d5p d7n e5P", "d6"},
		{"a pawn goes straight ahead onto it", "e1K e8k d5P", "d6"},
		{"a pawn goes straight ahead onto it, another could take there", "e1K e8k d5P e5P", "d6"},
		{"a pawn goes straight ahead onto it, on its own rank", "e1K e8k e2P", "e3"},
		{"a pawn goes straight ahead onto it, by two", "e1K e8k e2P", "e4"},
		{"a pawn that is no pawn of the other side", "e1K e8k d5n e5P", "d6"},
		{"no pawn at all", "e1K e8k e5P", "d6"},
		{"a rank further", "e1K h8k d6p e6P", "d7"},
		{"a rank less", "e1K h8k d4p e4P", "d5"},
		{"a last rank", "e1K h8k d7r e7P", "d8"},
		{"one's own pawn went there", "e1K e8k e4P d4p", "e3"},
		{"the other side is in check", "e1K e8k d5p e5P e7R", "d6"},
		{"no king", "e8k d5p e5P", "d6"},
		{"no king of the other side", "e1K d5p e5P", "d6"},
		{"two kings", "e1K a1K e8k d5p e5P", "d6"},
	} {
		p := drawn(c.puts, c.over)
		refuses(t, c.what, p)
		refuses(t, c.what+", turned", board.Turn(p))
		alike(t, c.what+", with and without Over", p, without(p), true)
	}
	for _, s := range sample.WrongSquares() {
		p := sample.Drawn("e1K e8k d5p e5P")
		p.Over = s
		if got := again.Over(p); got != api.NoSquare {
			t.Errorf("over %d: %d", s, got)
		}
		alike(t, "an Over that may not be, and none", p, without(p), true)
	}
}

// TestFarOff has unlike numbers that may not be, of which some are like others, if one takes less than all of their bits, or puts their digits side by side.
func TestFarOff(t *testing.T) { // P12.1
	var all []api.Position
	for _, x := range append(sample.WrongPieces(), sample.Pieces()...) {
		p := sample.Bare()
		p.Squares[0] = x
		all = append(all, p)
		p.Squares[0], p.Squares[63] = api.Piece{}, x
		all = append(all, p)
	}
	for _, k := range []int{1, 11, 111, -1, -11} {
		for _, s := range []int{1, 11, 111, -1, 0} {
			p := sample.Bare()
			p.Squares[5] = api.Piece{Kind: api.Kind(k), Side: api.Side(s)}
			all = append(all, p)
			p.Squares[6] = api.Piece{Kind: api.Kind(s), Side: api.Side(k)}
			all = append(all, p)
		}
	}
	for _, side := range append(sample.WrongSides(), 10, 11, 12, 121) {
		p := sample.Midst()
		p.Side = side
		all = append(all, p, sample.Castle(p, 1), sample.Castle(p, 11))
	}
	for _, has := range sample.WrongCastles() {
		all = append(all, sample.Castle(sample.Midst(), has), sample.Castle(sample.Black(sample.Midst()), has))
	}
	for i, p := range all {
		for j, q := range all {
			same := !others(p, q)
			if again.Same(p, q) != same || (again.Key(p) == again.Key(q)) != same {
				t.Fatalf("%d, %d: Same %v, one Key: %v, want %v, of %v and %v", i, j, again.Same(p, q), again.Key(p) == again.Key(q), same, p, q)
			}
		}
	}
}

// isNone asks a book that is none.
func isNone(t *testing.T, what string, b *again.Book) {
	t.Helper()
	for range 2 {
		if put, many, most := b.Put(sample.Begin()), b.Many(sample.Begin()), b.Most(); put != 0 || many != 0 || most != 0 {
			t.Errorf("%s: Put %d, Many %d, Most %d", what, put, many, most)
		}
		if c := b.Copy(); c != nil {
			t.Errorf("%s: has a copy", what)
		}
	}
}

func TestNoBook(t *testing.T) { // P12.2, R5
	isNone(t, "nil", nil)
	isNone(t, "a zero book", &again.Book{})
	isNone(t, "a new one", new(again.Book))
	b := again.New(sample.Begin())
	other := *b
	isNone(t, "a copy by value", &other)
	if b.Most() != 1 || b.Many(sample.Begin()) != 1 {
		t.Errorf("put by way of a copy by value: %d", b.Most())
	}
	isNone(t, "a copy that is nil", (*again.Book)(nil).Copy())
}

// TestWrongPut has a book of positions that are not right.
func TestWrongPut(t *testing.T) { // P12.2
	row := []api.Position{{}, sample.Bare(), sample.Counts(board.Start(), -1, -1)}
	for _, wrong := range sample.Spoilt(sample.Midst()) {
		row = append(row, wrong.Position)
	}
	b, ahead, most := again.New(), map[string]int{}, 0
	for _, p := range row {
		ahead[again.Key(p)]++
		want := ahead[again.Key(p)]
		most = max(most, want)
		if got := b.Put(p); got != want || b.Many(p) != want || b.Most() != most {
			t.Fatalf("Put %d, Many %d, Most %d, want %d, %d, of %v", got, b.Many(p), b.Most(), want, most, p)
		}
	}
	if c := again.New(row...); c.Most() != most || most < 2 || c.Many(board.Start()) != 1 {
		t.Errorf("Most %d, want %d; the begin came %d times", c.Most(), most, c.Many(board.Start()))
	}
}
