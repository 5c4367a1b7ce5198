package game

import (
	"zugzwang/again"
	"zugzwang/api"
	"zugzwang/dead"
	"zugzwang/ends"
)

// How often a position has come where a draw may be claimed, and where the game ends by itself.
const (
	threefold = 3
	fivefold  = 5
)

// shelf has a game's position, its book, and how often the position has come in it.
type shelf struct {
	now  api.Position
	book *again.Book
	came int
}

func emptyShelf() shelf {
	return shelf{book: again.New()}
}

func (s *shelf) put(p api.Position) {
	s.now, s.came = p, s.book.Put(p)
}

func (s *shelf) copied() shelf {
	return shelf{now: s.now, book: s.book.Copy(), came: s.came}
}

// ending is how a game ends by itself at its position: by the first row that has one.
func (s *shelf) ending() (api.Result, api.Reason) {
	for _, ask := range []func() (api.Result, api.Reason){
		func() (api.Result, api.Reason) { return ends.Of(s.now) },
		func() (api.Result, api.Reason) { return drawn(dead.Is(s.now), api.Dead) },
		func() (api.Result, api.Reason) { return drawn(s.came >= fivefold, api.Fivefold) },
		func() (api.Result, api.Reason) { return drawn(ends.Seventy(s.now), api.Seventy) },
	} {
		if result, why := ask(); result != api.Open {
			return result, why
		}
	}
	return api.Open, api.NoReason
}

func drawn(is bool, why api.Reason) (api.Result, api.Reason) {
	if is {
		return api.Drawn, why
	}
	return api.Open, api.NoReason
}

// claimable says whether the position is one of which a draw may be claimed so, while the game stands open.
func (s *shelf) claimable(why api.Reason) bool {
	switch why {
	case api.Threefold:
		return s.came >= threefold
	case api.Fifty:
		return ends.Fifty(s.now)
	}
	return false
}
