package square

import "zugzwang/api"

const (
	edge      = 8
	count     = edge * edge
	none      = -1
	firstFile = 'a'
	firstRank = '1'
	nameBytes = 2
)

// step is so many files and ranks.
type step [2]int

// place is a file and a rank, be they a board's or not.
type place struct {
	file, rank int
}

func (p place) onBoard() bool {
	return p.file >= 0 && p.file < edge && p.rank >= 0 && p.rank < edge
}

func (p place) dark() bool {
	return (p.file+p.rank)%2 == 0
}

func (p place) name() string {
	return string([]byte{byte(firstFile + p.file), byte(firstRank + p.rank)})
}

// after is the place a step on. From a board's place a sum that runs over comes out far below 0, so that it is no board's place, as it must be.
func (p place) after(by step) place {
	return place{p.file + by[0], p.rank + by[1]}
}

// spot is a square with its file and rank, or none.
type spot struct {
	place
	number int
}

func noSpot() spot {
	return spot{place{none, none}, api.NoSquare}
}

func spotOf(s int) spot {
	if s < 0 || s >= count {
		return noSpot()
	}
	return spot{place{s % edge, s / edge}, s}
}

func spotAt(p place) spot {
	if !p.onBoard() {
		return noSpot()
	}
	return spot{p, p.rank*edge + p.file}
}

// next is the spot a step on. It asks whether there is one to step from, as a step leads from the file and rank of none onto the board.
func (q spot) next(by step) spot {
	if !q.onBoard() {
		return noSpot()
	}
	return spotAt(q.after(by))
}
