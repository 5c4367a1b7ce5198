package legal_test

import (
	"math"
	"slices"
	"testing"

	"zugzwang/api"
	"zugzwang/board"
	"zugzwang/legal"
	"zugzwang/moves"
	"zugzwang/sample"
)

func deeps() []int {
	return []int{math.MinInt, -1 << 32, -3, -1, 0, 1, 2, 3, 4, 1 << 32, 1<<32 + 2, math.MaxInt}
}

// refuses asks what is answered of a position that may not be played on.
func refuses(t *testing.T, what string, p api.Position) {
	t.Helper()
	if legal.Position(p) {
		t.Errorf("%s: %v may be played on", what, p)
	}
	if l := legal.Moves(p); len(l) != 0 {
		t.Errorf("%s: %v", what, l)
	}
	tried := append(moves.All(p), sample.Moves("e2e4 e7e5 e1e2 e8e7 e1g1 e8c8 e7e8Q")...)
	tried = append(tried, api.Move{}, api.Move{From: -1, To: 64, Becomes: 9})
	for _, m := range tried {
		if legal.Is(p, m) {
			t.Errorf("%s: %v is legal", what, m)
		}
		if q, errno := legal.Play(p, m); errno != api.ErrArg || q != (api.Position{}) {
			t.Errorf("%s: %v: %d, %v", what, m, errno, q)
		}
	}
	for _, l := range [][]api.Move{nil, {}, tried} {
		if q, errno := legal.Play(p, l...); errno != api.ErrArg || q != (api.Position{}) {
			t.Errorf("%s: %d, %v", what, errno, q)
		}
	}
	for _, deep := range deeps() {
		if n := legal.Count(p, deep); n != 0 {
			t.Errorf("%s: %d rows of %d", what, n, deep)
		}
	}
	if t.Failed() {
		t.Fatalf("of %v", p)
	}
}

func TestNotRight(t *testing.T) { // P10.1, P10.2, P10.3
	refuses(t, "a bare board", sample.Bare())
	refuses(t, "a zero position", api.Position{})
	for _, p := range append(sample.Right(), sample.Black(sample.Midst()), sample.Black(sample.Late())) {
		for _, c := range sample.Spoilt(p) {
			refuses(t, c.What, c.Position)
		}
	}
	for has, puts := range map[api.Castle]string{1: "h1.", 2: "a1.", 4: "h8.", 8: "a8.", 3: "e1. d1K", 12: "e8. d8k", 5: "h8R", 10: "a1r", 15: "h1Q"} {
		refuses(t, "of castlings that are lost", castle(sample.Set(sample.Midst(), puts), has))
	}
}

// TestCountsAtEnds has the least and the most of the counts that may be.
func TestCountsAtEnds(t *testing.T) { // P10.1
	for _, half := range []int{0, 1024} {
		for _, full := range []int{1, 16384} {
			if p := sample.Counts(sample.Midst(), half, full); !legal.Position(p) {
				t.Errorf("of Half %d, Full %d it may not be played on", half, full)
			}
		}
	}
}

func TestWrongOver(t *testing.T) { // P10.1, P10.2, P10.3
	p, q := sample.BlackLeapt(), sample.WhiteLeapt()
	for _, s := range append(sample.WrongSquares()[1:], 0, 20, 28, 35, 42, 44, 51, 63) {
		p.Over, q.Over = s, s
		if s != 20 {
			refuses(t, "of an Over that may not be, of black", q)
		}
		refuses(t, "of an Over that may not be", p)
	}
	for _, puts := range []string{"d5.", "d5P", "d5n", "d6p", "d6N", "d7p", "d7B"} {
		refuses(t, "over a square, with "+puts, sample.Set(sample.BlackLeapt(), puts))
	}
	late := sample.BlackLeapt()
	late.Half = 1
	refuses(t, "over a square, a move ago", late)
	refuses(t, "over a square, by who moves", sample.Black(sample.BlackLeapt()))
}

// TestOtherInCheck has positions in which the side that does not move is in check, by each kind of piece.
func TestOtherInCheck(t *testing.T) { // P10.1, P10.2, P10.3
	for _, c := range sample.OtherInCheck() {
		refuses(t, c.What, c.Position)
		refuses(t, c.What+", turned", board.Turn(c.Position))
	}
}

// wrongMoves are those that are legal in no position, and some that are not at the begin.
func wrongMoves() []api.Move {
	var l []api.Move
	for _, s := range sample.WrongSquares() {
		l = append(l, api.Move{From: s, To: 28}, api.Move{From: 12, To: s}, api.Move{From: s, To: s}, api.Move{From: s, To: s + 16}, api.Move{From: s, To: s + 2, Becomes: api.Queen})
	}
	for _, k := range append(sample.WrongKinds(), api.Pawn, api.Knight, api.Bishop, api.Rook, api.Queen, api.King) {
		l = append(l, api.Move{From: 12, To: 28, Becomes: k}, api.Move{From: 6, To: 21, Becomes: k})
	}
	for s := range 64 {
		l = append(l, api.Move{From: s, To: s})
	}
	return append(l, sample.Moves("e7e5 g8f6 e8e7 a1a2 a1a3 c1e3 d1d2 e1e2 e1g1 e1c1 e2e5 e2d3 e2f3 e3e4 e4e5 b1d2 g1e2 g1g3 a7a8Q e2e1Q")...)
}

func TestWrongMoves(t *testing.T) { // P10.1, P10.2
	for _, m := range wrongMoves() {
		if legal.Is(sample.Begin(), m) {
			t.Errorf("%v is legal", m)
		}
		if p, errno := legal.Play(sample.Begin(), m); errno != api.ErrMove || p != (api.Position{}) {
			t.Errorf("%v: %d, %v", m, errno, p)
		}
	}
	// What may be become, of a pawn at the end, and of others there.
	for _, k := range append(sample.WrongKinds(), api.NoKind, api.Pawn, api.King) {
		m := api.Move{From: sample.Square("d7"), To: sample.Square("d8"), Becomes: k}
		if p, errno := legal.Play(sample.Late(), m); legal.Is(sample.Late(), m) || errno != api.ErrMove || p != (api.Position{}) {
			t.Errorf("%v: %d, %v", m, errno, p)
		}
	}
	if m := sample.Move("d1d6Q"); legal.Is(sample.Late(), m) || !legal.Is(sample.Late(), sample.Move("d1d6")) {
		t.Error("a rook becomes a queen")
	}
}

func TestPlay(t *testing.T) { // P10.2
	row := sample.Moves("e2e4 e7e5 g1f3 b8c6 f1b5 a7a6 b5c6 d7c6 e1g1")
	want := sample.Set(sample.Begin(), "e2. e4P e7. e5p g1K f3N b8. c6p f1R a7. a6p d7. e1. h1.")
	want.Side, want.Castle, want.Half, want.Full = api.Black, 12, 1, 5
	if p, errno := legal.Play(sample.Begin(), row...); errno != api.OK || p != want {
		t.Errorf("%d, %v, want %v", errno, p, want)
	}
	for _, l := range [][]api.Move{nil, {}} {
		if p, errno := legal.Play(sample.Begin(), l...); errno != api.OK || p != sample.Begin() {
			t.Errorf("an empty row: %d, %v", errno, p)
		}
	}
	for i := range row {
		for _, m := range wrongMoves() {
			if legal.Is(mustPlay(t, row[:i]), m) {
				continue
			}
			l := slices.Clone(row)
			l[i] = m
			for _, l := range [][]api.Move{l, l[:i+1]} {
				if p, errno := legal.Play(sample.Begin(), l...); errno != api.ErrMove || p != (api.Position{}) {
					t.Errorf("%v in place of %d: %d, %v", m, i, errno, p)
				}
			}
		}
	}
	// A row is asked move by move: what is legal alone may not be so there, and the other way round.
	for _, row := range []string{"e2e4 e4e5", "e2e4 e7e5 e4e5", "g1f3 g8f6 g1f3", "f2f3 e7e5 g2g4 d8h4 a2a3", "e2e4 f7f6 d1h5 a7a6", "e2e4 f7f6 d1h5 e8f7", "e2e4 d7d5 e4d5 d8d5 e1e3"} {
		if p, errno := legal.Play(sample.Begin(), sample.Moves(row)...); errno != api.ErrMove || p != (api.Position{}) {
			t.Errorf("%s: %d, %v", row, errno, p)
		}
	}
	for _, row := range []string{"e2e4 f7f6 d1h5 g7g6", "g1f3 g8f6 f3g1 f6g8 g1f3", "f2f3 e7e5 g2g4 d8h4"} {
		if _, errno := legal.Play(sample.Begin(), sample.Moves(row)...); errno != api.OK {
			t.Errorf("%s: %d", row, errno)
		}
	}
}

func mustPlay(t *testing.T, row []api.Move) api.Position {
	t.Helper()
	p, errno := legal.Play(sample.Begin(), row...)
	if errno != api.OK {
		t.Fatalf("%v: %d", row, errno)
	}
	return p
}

// TestLongRow has as many moves as a game may, and one that is not legal behind them.
func TestLongRow(t *testing.T) { // P10.2
	var row []api.Move
	for len(row) < api.MaxMoves {
		row = append(row, sample.Moves("g1f3 g8f6 f3g1 f6g8")...)
	}
	want := sample.Begin()
	want.Half, want.Full = api.MaxHalf, 1+api.MaxMoves/2
	if p, errno := legal.Play(sample.Begin(), row...); errno != api.OK || p != want {
		t.Errorf("%d, %v", errno, p)
	}
	if p, errno := legal.Play(sample.Begin(), append(row, sample.Move("g1g3"))...); errno != api.ErrMove || p != (api.Position{}) {
		t.Errorf("%d, %v", errno, p)
	}
}

// TestCountsEnd has positions whose counts of moves are at their ends.
func TestCountsEnd(t *testing.T) { // P10.2, P10.4
	p := sample.Black(sample.Midst())
	p.Half, p.Full = api.MaxHalf, api.MaxFull
	q, errno := legal.Play(p, sample.Move("a8b8"))
	if errno != api.OK || q.Half != api.MaxHalf || q.Full != api.MaxFull || !legal.Position(q) {
		t.Errorf("%d, %v", errno, q)
	}
}
