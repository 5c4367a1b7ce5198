package again

import (
	"strconv"

	"zugzwang/api"
	"zugzwang/play"
)

// Counts that a position may have whatever else it has, also behind a pawn's long step.
const (
	anyHalf = 0
	anyFull = 1
)

// keyLength is that of a right position's Key, at most: of each square two digits, each with a blank behind, and what is beside them.
const keyLength = 64*4 + 8

// overUncounted is what may be taken over, whatever the counts are: where they may not be no move is legal, and by that they would count in what is the same.
func overUncounted(p api.Position) int {
	p.Half, p.Full = anyHalf, anyFull
	return Over(p)
}

// takesOver says whether a legal move does: any other one that takes something takes it where it goes.
func takesOver(p api.Position, m api.Move) bool {
	at := play.Takes(p, m)
	return at != api.NoSquare && at != m.To
}

// numbers puts each with a blank behind, so that unlike rows of as many have unlike texts, also where a number may not be.
func numbers(text []byte, all ...int) []byte {
	for _, n := range all {
		text = append(strconv.AppendInt(text, int64(n), 10), ' ')
	}
	return text
}
