package ends

import (
	"zugzwang/api"
	"zugzwang/attack"
	"zugzwang/legal"
)

// Limits of Half, which counts the moves of each side by itself: so they are twice fifty, and twice seventy-five.
const (
	fifty   = 100
	seventy = 150
)

// judge says how a game stands at the position that it has.
type judge struct {
	api.Position
}

// stuck says whether a position may be played on, and the side that moves has no legal move. That there is no move says too little: one that may not be played on has none, either.
func (j *judge) stuck() bool {
	return legal.Position(j.Position) && len(legal.Moves(j.Position)) == 0
}

// checked says whether the side that moves is in check.
func (j *judge) checked() bool {
	return attack.Check(j.Position, j.Side)
}

// lost is the result by which the side that moves loses.
func (j *judge) lost() api.Result {
	if j.Side == api.White {
		return Wins(api.Black)
	}
	return Wins(api.White)
}

// reaches says whether a position may be played on, and its Half has come to all of the limits.
func (j *judge) reaches(limits ...int) bool {
	for _, limit := range limits {
		if j.Half < limit {
			return false
		}
	}
	return legal.Position(j.Position)
}
