package game_test

import (
	"testing"

	"zugzwang/api"
	"zugzwang/game"
	"zugzwang/legal"
	"zugzwang/sample"
)

// hall has a rook of each side that may go round on its rank whatever the pawns do, which never take each other.
func hall(half int) api.Position {
	return sample.Counts(sample.Board("kr......", "pppp....", "pppp....", "........", "........", "....PPPP", "....PPPP", "R......K"), half, 1)
}

// pawnsGo are the moves of a side's pawns in the hall, by the square of the first: those that are farther on go first.
func pawnsGo(first, on int) []api.Move {
	var all []api.Move
	for _, ahead := range []int{on, 0} {
		for file := range 4 {
			for step := range 4 {
				at := first + ahead + file + step*on
				all = append(all, api.Move{From: at, To: at + on})
			}
		}
	}
	return all
}

// long is a row of n moves from the hall on. White's rook goes round seven squares, black's round six, so that no position comes five times; a pawn goes ahead of seventy-five moves without, up to the last of so many moves that a pawn may be.
func long(half, n, lastPawn int) []api.Move {
	pawns := [2][]api.Move{pawnsGo(12, 8), pawnsGo(48, -8)}
	first, wide := [2]int{0, 57}, [2]int{7, 6}
	var went [2]int
	var all []api.Move
	for i := range n {
		side := i % 2
		if half >= 148 && i < lastPawn {
			all, pawns[side], half = append(all, pawns[side][0]), pawns[side][1:], 0
			continue
		}
		at := went[side]
		went[side] = (at + 1) % wide[side]
		all = append(all, api.Move{From: first[side] + at, To: first[side] + went[side]})
		half++
	}
	return all
}

// longest has as many moves as may be, and stands open.
func longest(t *testing.T) *game.Game {
	t.Helper()
	g := from(t, hall(0))
	answers(t, "as many moves as may be", g.Play(long(0, api.MaxMoves, api.MaxMoves)...), api.OK)
	stands(t, "as many moves as may be", g, api.Open, api.NoReason)
	if n := len(g.Moves()); n != 8192 {
		t.Fatalf("%d moves", n)
	}
	return g
}

// tooLong asks that a game has as many moves as may be, and no more are made.
func tooLong(t *testing.T, what string, g *game.Game) {
	t.Helper()
	want := lookAt(g)
	if len(want.moves) != api.MaxMoves || want.result != api.Open {
		t.Fatalf("%s: %d moves, %d", what, len(want.moves), want.result)
	}
	for _, m := range append(legal.Moves(want.now), api.Move{}, sample.Move("a1a8"), api.Move{From: -1, To: 64}) {
		answers(t, what+": one more", g.Play(m), api.ErrLong)
	}
	answers(t, what+": some more", g.Play(legal.Moves(want.now)...), api.ErrLong)
	answers(t, what+": no more", g.Play(), api.OK)
	tells(t, what, g, want)
}

// TestLongest has a game of as many moves as may be, which may be claimed and stopped like any other.
func TestLongest(t *testing.T) { // P14.2
	g := longest(t)
	tooLong(t, "the longest", g)
	tooLong(t, "its copy", g.Copy())
	claims(t, "the longest", g, api.Fifty, true)
	claims(t, "the longest", g, api.Threefold, false)
	want := lookAt(g)
	for why, result := range map[api.Reason]api.Result{api.Agreed: api.Drawn, api.Resigned: api.BlackWins, api.BadSeal: api.BlackWins} {
		c := g.Copy()
		answers(t, "a stop of the longest", c.Stop(why), api.OK)
		ended(t, "the longest, stopped", c, look{now: want.now, moves: want.moves, result: result, reason: why})
	}
}

// TestOneFewer has a game with one move fewer than may be.
func TestOneFewer(t *testing.T) { // P14.2
	row := long(0, api.MaxMoves, api.MaxMoves)
	last := len(row) - 1
	g := from(t, hall(0))
	answers(t, "one fewer", g.Play(row[:last]...), api.OK)
	was := lookAt(g)
	answers(t, "one fewer, and a wrong one", g.Play(api.Move{}), api.ErrMove)
	tells(t, "one fewer, and a wrong one", g, was)
	c := g.Copy()
	answers(t, "the last", g.Play(row[last]), api.OK)
	tooLong(t, "the last", g)
	answers(t, "the last, and more", c.Play(row[last], row[last], row[0]), api.ErrLong)
	tooLong(t, "the last, and more", c)
	tells(t, "by one way and the other", c, lookAt(g))
}

// TestRowTooLong has one row that goes on behind as many moves as may be.
func TestRowTooLong(t *testing.T) { // P14.2
	row := long(0, api.MaxMoves+100, api.MaxMoves+100)
	g := from(t, hall(0))
	answers(t, "too long a row", g.Play(row...), api.ErrLong)
	tooLong(t, "too long a row", g)
	tells(t, "too long a row", g, lookAt(longest(t)))
}

// TestLastEnds has a game that ends by itself with the last move that may be: that it has ended is told first.
func TestLastEnds(t *testing.T) { // P14.2
	row := long(4, api.MaxMoves, api.MaxMoves-149)
	g := from(t, hall(4))
	answers(t, "up to the last", g.Play(row[:len(row)-1]...), api.OK)
	stands(t, "up to the last", g, api.Open, api.NoReason)
	answers(t, "the last", g.Play(row[len(row)-1]), api.OK)
	ended(t, "the last", g, look{now: g.Now(), moves: row, result: api.Drawn, reason: api.Seventy})
	c := from(t, hall(4))
	answers(t, "the last, and more", c.Play(append(row, row...)...), api.ErrOver)
	tells(t, "the last, and more", c, lookAt(g))
}
