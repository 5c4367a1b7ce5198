package dead

import (
	"zugzwang/api"
	"zugzwang/square"
)

// counter counts pieces to what is left that it has.
type counter struct {
	Left
}

// counted has what is left in a position.
func counted(p api.Position) counter {
	var c counter
	for s, x := range p.Squares {
		c.one(x.Kind, square.Dark(s))
	}
	return c
}

// all counts pieces that stand nowhere: a bishop goes to the shade that has fewer of them.
func (c *counter) all(pieces ...api.Kind) {
	for _, kind := range pieces {
		c.one(kind, c.Dark <= c.Light)
	}
}

// one counts a piece. One of no known kind is heavy, so that it never makes a position dead.
func (c *counter) one(kind api.Kind, onDark bool) {
	switch kind {
	case api.NoKind, api.King:
	case api.Knight:
		c.Knights++
	case api.Bishop:
		c.bishop(onDark)
	default:
		c.Heavy++
	}
}

func (c *counter) bishop(onDark bool) {
	if onDark {
		c.Dark++
	} else {
		c.Light++
	}
}
