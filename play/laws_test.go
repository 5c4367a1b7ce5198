package play_test

import (
	"math/rand"
	"slices"
	"testing"

	"zugzwang/api"
	"zugzwang/board"
	"zugzwang/play"
	"zugzwang/sample"
)

// modelCan says by the chapter's words, written once more, what is wrong with a move.
func modelCan(p api.Position, m api.Move) api.Errno {
	if min(m.From, m.To) < 0 || max(m.From, m.To) > 63 || m.From == m.To {
		return api.ErrRange
	}
	x := p.Squares[m.From]
	if !slices.Contains(rightPieces(), x) || x.Side != p.Side {
		return api.ErrMove
	}
	ends := x == piece('P') && m.To >= 56 || x == piece('p') && m.To <= 7
	if ends != (m.Becomes >= 2 && m.Becomes <= 5) || !ends && m.Becomes != 0 {
		return api.ErrMove
	}
	return api.OK
}

func modelTakes(p api.Position, m api.Move) int {
	if modelCan(p, m) != api.OK {
		return -1
	}
	if p.Squares[m.To] != (api.Piece{}) {
		return m.To
	}
	beside := m.From/8*8 + m.To%8
	if p.Squares[m.From].Kind == 1 && m.To == p.Over && (m.From-m.To)%8 != 0 && p.Squares[beside] != (api.Piece{}) {
		return beside
	}
	return -1
}

// modelCastles is asked of moves that can be made.
func modelCastles(p api.Position, m api.Move) bool {
	x := p.Squares[m.From]
	needs := api.Castle(1) << (2 * x.Side)
	if m.To == m.From-2 {
		needs *= 2
	} else if m.To != m.From+2 {
		return false
	}
	return x.Kind == 6 && m.From == 4+56*int(x.Side) && p.Castle&^15 == 0 && p.Castle&needs != 0
}

func modelMove(p api.Position, m api.Move) (api.Position, api.Errno) {
	if errno := modelCan(p, m); errno != api.OK {
		return api.Position{}, errno
	}
	x, taken, q := p.Squares[m.From], modelTakes(p, m), p
	if m.Becomes != 0 {
		q.Squares[m.From].Kind = m.Becomes
	}
	q.Squares[m.From], q.Squares[m.To] = api.Piece{}, q.Squares[m.From]
	if taken >= 0 && taken != m.To {
		q.Squares[taken] = api.Piece{}
	}
	if q.Castle&^15 != 0 {
		q.Castle = 0
	}
	if modelCastles(p, m) {
		corner := m.From + 3
		if m.To < m.From {
			corner = m.From - 4
		}
		q.Squares[corner], q.Squares[(m.From+m.To)/2] = api.Piece{}, api.Piece{Kind: 4, Side: x.Side}
	}
	for i, corner := range []int{7, 0, 63, 56} {
		if m.From == corner || m.To == corner || m.From == i/2*56+4 || m.To == i/2*56+4 {
			q.Castle &^= 1 << i
		}
	}
	q.Over = -1
	if x == piece('P') && m.From/8 == 1 && m.To == m.From+16 || x == piece('p') && m.From/8 == 6 && m.To == m.From-16 {
		q.Over = (m.From + m.To) / 2
	}
	q.Half = min(p.Half, 1023) + 1
	if x.Kind == 1 || taken >= 0 {
		q.Half = 0
	}
	if x.Side == 1 {
		q.Full = min(p.Full, 16383) + 1
	}
	q.Side = 1 - x.Side
	return q, api.OK
}

func choose[T any](r *rand.Rand, all ...T) T { return all[r.Intn(len(all))] }

// anyMove goes from anywhere to anywhere, often as kings castle, as pawns leap, take and reach the end.
func anyMove(r *rand.Rand, p api.Position) api.Move {
	m := api.Move{From: r.Intn(64), To: r.Intn(64)}
	if r.Intn(3) > 0 {
		m.To = m.From + choose(r, 16, -16, 2, -2, 7, -7, 9, -9, 8, -8, 1)
	}
	if r.Intn(6) == 0 {
		m.From = choose(r, 4, 60)
		m.To = m.From + choose(r, 2, -2, 3, -3)
	}
	if r.Intn(6) == 0 && p.Over >= 0 {
		m.To = p.Over
	}
	if r.Intn(4) == 0 {
		m.Becomes = api.Kind(r.Intn(8))
	}
	if r.Intn(30) == 0 {
		m.To = choose(r, noSquares()...)
	}
	return m
}

func TestByModel(t *testing.T) { // P8.1, P8.2
	r := rand.New(rand.NewSource(81))
	var of [32]int
	for range 20000 {
		p := sample.Scattered(r.Intn)
		for range 20 {
			m := anyMove(r, p)
			want, no := modelMove(p, m)
			got, errno := play.Move(p, m)
			if errno != no || got != want {
				t.Fatalf("%v of %v: %d, %v, want %d, %v", m, p, errno, got, no, want)
			}
			if got := play.Takes(p, m); got != modelTakes(p, m) {
				t.Fatalf("%v of %v takes on %d, want %d", m, p, got, modelTakes(p, m))
			}
			of[errno]++
		}
	}
	if of[api.OK] < 50000 || of[api.ErrMove] < 50000 || of[api.ErrRange] < 5000 {
		t.Errorf("%v tries little", of[:10])
	}
}

func TestRowsByModel(t *testing.T) { // P8.1
	r := rand.New(rand.NewSource(18))
	for range 3000 {
		p := sample.Scattered(r.Intn)
		want, no := p, api.OK
		var l []api.Move
		for range r.Intn(12) {
			m := anyMove(r, want)
			if no == api.OK && r.Intn(20) > 0 {
				m = canBeMade(r, want)
			}
			l = append(l, m)
			if no == api.OK {
				want, no = modelMove(want, m)
			}
		}
		if got, errno := play.Moves(p, l...); errno != no || got != want {
			t.Fatalf("%v of %v: %d, %v, want %d, %v", l, p, errno, got, no, want)
		}
	}
}

// canBeMade is a move that can be made, if one is soon found.
func canBeMade(r *rand.Rand, p api.Position) api.Move {
	var m api.Move
	for range 200 {
		if m = anyMove(r, p); modelCan(p, m) == api.OK {
			break
		}
	}
	return m
}

// rightOne is a right position that came about by moves from a right one, none of which takes a king.
func rightOne(r *rand.Rand) api.Position {
	p := choose(r, rightOnes()...)
	for range r.Intn(6) {
		m := canBeMade(r, p)
		if q, errno := play.Move(p, m); errno == api.OK && board.Right(q) {
			p = q
		}
	}
	return p
}

// allMoves are those that can be made from a position.
func allMoves(p api.Position) []api.Move {
	var all []api.Move
	for from, x := range p.Squares {
		for to := range 64 {
			for becomes := api.NoKind; becomes <= api.King && x.Side == p.Side; becomes++ {
				if m := (api.Move{From: from, To: to, Becomes: becomes}); modelCan(p, m) == api.OK {
					all = append(all, m)
				}
			}
		}
	}
	return all
}

// unlike counts the squares on which two positions are.
func unlike(p, q api.Position) int {
	n := 0
	for s := range 64 {
		if p.Squares[s] != q.Squares[s] {
			n++
		}
	}
	return n
}

func standing(p api.Position) int { return unlike(p, api.Position{}) }

// squaresLaw asks what becomes of squares, pieces and kings behind a move of a right position. A castling's rook is put on what stands in the king's way, which is gone then, though it is not what the move takes.
func squaresLaw(t *testing.T, p api.Position, m api.Move, q api.Position) int {
	t.Helper()
	taken, other := play.Takes(p, m), unlike(p, q)
	if other < 1 || other > 4 {
		t.Errorf("%v: %d squares are other", m, other)
	}
	gone := p
	if taken != api.NoSquare {
		gone.Squares[taken] = api.Piece{}
	}
	if modelCastles(p, m) {
		gone.Squares[(m.From+m.To)/2] = api.Piece{}
	}
	if standing(q) != standing(gone) {
		t.Errorf("%v: %d pieces, want %d", m, standing(q), standing(gone))
	}
	for _, side := range []api.Side{api.White, api.Black} {
		king := api.Piece{Kind: api.King, Side: side}
		if n := len(board.Find(q, king)); n != len(board.Find(gone, king)) {
			t.Errorf("%v: %d kings of %d", m, n, side)
		}
	}
	return other
}

func turnedLaw(t *testing.T, p api.Position, m api.Move, q api.Position) {
	t.Helper()
	n := api.Move{From: m.From ^ 56, To: m.To ^ 56, Becomes: m.Becomes}
	got, errno := play.Move(board.Turn(p), n)
	if got.Full = board.Turn(q).Full; errno != api.OK || got != board.Turn(q) {
		t.Errorf("%v turned: %d, %v, want %v", m, errno, got, board.Turn(q))
	}
	want := play.Takes(p, m)
	if want != api.NoSquare {
		want ^= 56
	}
	takes(t, board.Turn(p), n, want)
}

func TestOfRightOnes(t *testing.T) { // P8.3
	r := rand.New(rand.NewSource(83))
	positions := rightOnes()
	for range 200 {
		positions = append(positions, rightOne(r))
	}
	var of [5]int
	for _, p := range positions {
		if !board.Right(p) {
			t.Fatalf("%v is not right", p)
		}
		for _, m := range allMoves(p) {
			q, errno := play.Move(p, m)
			if errno != api.OK {
				t.Fatalf("%v: %d", m, errno)
			}
			of[squaresLaw(t, p, m, q)%5]++
			turnedLaw(t, p, m, q)
			if t.Failed() {
				t.Fatalf("in %v", p)
			}
		}
	}
	if of[2] < 100000 || of[3] < 50 || of[4] < 50 {
		t.Errorf("squares that are other: %v: that tries little", of)
	}
}

// TestOtherSquares has how many squares are other behind an ordinary move, one that takes over, and a castling.
func TestOtherSquares(t *testing.T) { // P8.3
	for _, c := range []struct {
		p    api.Position
		move string
		want int
	}{
		{begin(), "e2e4", 2}, {midst(), "c4e6", 2}, {late(), "d7c8Q", 2}, {late(), "d7d8Q", 2},
		{blackLeapt(), "e5d6", 3}, {whiteLeapt(), "f4e3", 3},
		{midst(), "e1g1", 4}, {midst(), "e1c1", 4}, {blackMoves(midst()), "e8g8", 4}, {blackMoves(midst()), "e8c8", 4},
	} {
		q, errno := play.Move(c.p, mv(c.move))
		if n := unlike(c.p, q); errno != api.OK || n != c.want {
			t.Errorf("%s: %d, %d squares are other, want %d", c.move, errno, n, c.want)
		}
	}
}

// TestKingBetween has the one case in which a king goes that is not taken: it stood in the way of a castling.
func TestKingBetween(t *testing.T) { // P8.1, P8.3
	p := set(midst(), "e8. d8. f1k d2N")
	p.Castle = 3
	if !board.Right(p) {
		t.Fatal("the position is not right")
	}
	leads(t, p, mv("e1g1"), behind(p, "e1. g1K h1. f1R", "", 0, 7, 9))
	takes(t, p, mv("e1g1"), api.NoSquare)
}

func TestTurned(t *testing.T) { // P8.3
	whole, errno := play.Moves(begin(), row("e2e4 e7e5 g1f3 b8c6 f1b5 g8f6 e1g1 f6e4 b5c6 d7c6")...)
	turned, no := play.Moves(board.Turn(begin()), row("e7e5 e2e4 g8f6 b1c3 f8b4 g1f3 e8g8 f3e5 b4c3 d2c3")...)
	if turned.Full = whole.Full; errno != api.OK || no != api.OK || turned != board.Turn(whole) {
		t.Errorf("%d, %d, %v, want %v", errno, no, turned, board.Turn(whole))
	}
}

func TestArgumentsStay(t *testing.T) { // R3
	given := append(make([]api.Move, 0, 8), row("e2e4 e7e5 g1f3")...)
	whole := given[:8]
	before := slices.Clone(whole)
	p := begin()
	got, errno := play.Moves(p, given...)
	want := got
	play.Moves(p, append(given[:2:2], api.Move{From: -1})...)
	play.Move(p, given[0])
	play.Takes(p, given[0])
	if errno != api.OK || p != begin() || !slices.Equal(whole, before) {
		t.Error("what was given was changed")
	}
	given[0], given[1], given[2] = mv("a2a3"), mv("a7a6"), mv("b2b3")
	if got != want {
		t.Error("the row is kept")
	}
}

func TestAlikeEachTime(t *testing.T) { // R3, R4
	for _, p := range rightOnes() {
		for _, m := range allMoves(p) {
			first, _ := play.Move(p, m)
			want := first
			first.Squares = [64]api.Piece{}
			if second, errno := play.Move(p, m); errno != api.OK || second != want {
				t.Fatalf("%v: %d, %v, then %v", m, errno, want, second)
			}
		}
	}
}
