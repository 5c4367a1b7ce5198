package legal

import (
	"iter"
	"slices"

	"zugzwang/api"
	"zugzwang/attack"
	"zugzwang/board"
	"zugzwang/moves"
	"zugzwang/play"
)

// deepest is how many moves the rows have, at most, that are counted.
const deepest = 3

// judge judges moves in the position that it has. Whether that may be played on is asked once, ahead of all else: behind a legal move the next one may be, too.
type judge struct {
	api.Position
}

func (j *judge) mayBePlayedOn() bool {
	return board.Right(j.Position) && !attack.Check(j.Position, board.Other(j.Side))
}

// legal goes through the legal moves, in order, each with the judge behind it.
func (j *judge) legal() iter.Seq2[api.Move, judge] {
	return func(yield func(api.Move, judge) bool) {
		for _, m := range moves.All(j.Position) {
			if behind, is := j.behind(m); is && !yield(m, behind) {
				return
			}
		}
	}
}

// behind is the judge behind a move, one as pieces go, if that is legal.
func (j *judge) behind(m api.Move) (judge, bool) {
	if j.castles(m) && !j.isFreeWay(m) {
		return judge{}, false
	}
	p, errno := play.Move(j.Position, m)
	if errno != api.OK || attack.Check(p, j.Side) {
		return judge{}, false
	}
	return judge{p}, true
}

// castles says whether a move, one as pieces go, is a castling: in no other a king goes two files.
func (j *judge) castles(m api.Move) bool {
	return j.Squares[m.From].Kind == api.King && (m.To == m.From+2 || m.To == m.From-2)
}

// isFreeWay says whether nothing attacks the square that a castling's king leaves, or the one that it goes over.
func (j *judge) isFreeWay(m api.Move) bool {
	between := (m.From + m.To) / 2
	return !attack.Is(j.Position, board.Other(j.Side), m.From, between)
}

// advance makes moves, one behind the other, and says whether all are legal; it ends at the first that is not.
func (j *judge) advance(l ...api.Move) bool {
	for _, m := range l {
		if !slices.Contains(moves.From(j.Position, m.From), m) {
			return false
		}
		behind, is := j.behind(m)
		if !is {
			return false
		}
		*j = behind
	}
	return true
}

// count counts the rows of so many legal moves.
func (j *judge) count(deep int) int {
	if deep < 1 {
		return 1
	}
	rows := 0
	for _, behind := range j.legal() {
		rows += behind.count(deep - 1)
	}
	return rows
}
