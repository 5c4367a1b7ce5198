package dead_test

import (
	"math"
	"strings"
	"testing"

	"zugzwang/api"
	"zugzwang/board"
	"zugzwang/dead"
	"zugzwang/sample"
)

// shades has a rank a row, from 1 on: d is dark.
const shades = "d.d.d.d." + ".d.d.d.d" + "d.d.d.d." + ".d.d.d.d" +
	"d.d.d.d." + ".d.d.d.d" + "d.d.d.d." + ".d.d.d.d"

func dark(s int) bool { return shades[s] == 'd' }

// turned is what is left in the position turned: each bishop stands on the other shade then.
func turned(l dead.Left) dead.Left {
	l.Dark, l.Light = l.Light, l.Dark
	return l
}

// has asks what is left in a position, whether it is dead by all that tells it, and so that turned.
func has(t *testing.T, what string, p api.Position, left dead.Left, is bool) {
	t.Helper()
	for _, q := range []api.Position{p, board.Turn(p)} {
		got := dead.Of(q)
		if got != left {
			t.Errorf("%s: %+v, want %+v, of %v", what, got, left, q)
		}
		if dead.Is(q) != is || got.Dead() != is || left.Dead() != is {
			t.Errorf("%s: Is %v, Dead %v, and %v, want %v, of %v", what, dead.Is(q), got.Dead(), left.Dead(), is, q)
		}
		left = turned(left)
	}
}

// sided are a position with its pieces of the sides that they have, all of one side, all of the other ones, and one by one of each.
func sided(p api.Position) []api.Position {
	all := []api.Position{p, p, p, p, p}
	next := api.White
	for s, x := range p.Squares {
		if x == (api.Piece{}) {
			continue
		}
		all[1].Squares[s].Side, all[2].Squares[s].Side = api.White, api.Black
		all[3].Squares[s].Side = 1 - x.Side
		all[4].Squares[s].Side = next
		next = 1 - next
	}
	return all
}

// whateverSides asks it of a position with no kings, one, one of each side, and many, of whichever sides what stands there is.
func whateverSides(t *testing.T, what string, p api.Position, left dead.Left, is bool) {
	t.Helper()
	for _, kings := range []string{"", "e1K", "e8k", "e1K e8k", "e1K e8K d1K d8k h4k a5K a4k"} {
		q := p
		for _, put := range strings.Fields(kings) {
			if s := sample.Square(put[:2]); q.Squares[s] == (api.Piece{}) {
				q.Squares[s] = sample.Piece(put[2])
			}
		}
		for _, r := range sided(q) {
			has(t, what+", kings: "+kings, r, left, is)
		}
	}
}

func TestExamples(t *testing.T) { // P13.1
	has(t, "kings alone", sample.Drawn("e1K e8k"), dead.Left{}, true)
	has(t, "kings and a knight", sample.Drawn("e1K e8k b1N"), dead.Left{Knights: 1}, true)
	has(t, "kings and two knights", sample.Drawn("e1K e8k b1N g8n"), dead.Left{Knights: 2}, false)
	has(t, "kings and bishops on c1 and f8", sample.Drawn("e1K e8k c1B f8b"), dead.Left{Dark: 2}, true)
	has(t, "the begin", board.Start(), dead.Left{Heavy: 22, Knights: 4, Dark: 2, Light: 2}, false)
	has(t, "a bare board", board.Empty(), dead.Left{}, true)
}

func TestFew(t *testing.T) { // P13.1
	for _, c := range []struct {
		puts string
		left dead.Left
		is   bool
	}{
		{"", dead.Left{}, true},
		{"c3N", dead.Left{Knights: 1}, true},
		{"c4n", dead.Left{Knights: 1}, true},
		{"b1N g1N", dead.Left{Knights: 2}, false},
		{"b1N g8n", dead.Left{Knights: 2}, false},
		{"b1N g1N b8n", dead.Left{Knights: 3}, false},
		{"c1B", dead.Left{Dark: 1}, true},
		{"f1B", dead.Left{Light: 1}, true},
		{"c1B e3B", dead.Left{Dark: 2}, true},
		{"c1B f8b", dead.Left{Dark: 2}, true},
		{"f1B g2B", dead.Left{Light: 2}, true},
		{"f1B c8b", dead.Left{Light: 2}, true},
		{"a1B b2B c3b", dead.Left{Dark: 3}, true},
		{"a1B b2B c3b d4b e5B f6b g7B h8b", dead.Left{Dark: 8}, true},
		{"h1B g2B f3b", dead.Left{Light: 3}, true},
		{"h1B g2B f3b e4b d5B c6b b7B a8b", dead.Left{Light: 8}, true},
		{"c1B f1B", dead.Left{Dark: 1, Light: 1}, false},
		{"c1B c8b", dead.Left{Dark: 1, Light: 1}, false},
		{"c1B f8b c8b", dead.Left{Dark: 2, Light: 1}, false},
		{"c1B f1B c8b", dead.Left{Dark: 1, Light: 2}, false},
		{"a1B b2B c3b d4b e5B f6b g7B h8b h1b", dead.Left{Dark: 8, Light: 1}, false},
		{"a1b h1B g2B f3b e4b d5B c6b b7B a8b", dead.Left{Dark: 1, Light: 8}, false},
		{"c3N c1B", dead.Left{Knights: 1, Dark: 1}, false},
		{"c3N f1b", dead.Left{Knights: 1, Light: 1}, false},
		{"c3n c1B f8b", dead.Left{Knights: 1, Dark: 2}, false},
		{"c3n f1B c8b", dead.Left{Knights: 1, Light: 2}, false},
		{"c3N f6n c1B", dead.Left{Knights: 2, Dark: 1}, false},
		{"c3N f6n f1B", dead.Left{Knights: 2, Light: 1}, false},
		{"c3N c1B f1B", dead.Left{Knights: 1, Dark: 1, Light: 1}, false},
		{"e2P", dead.Left{Heavy: 1}, false},
		{"e7p", dead.Left{Heavy: 1}, false},
		{"a1R", dead.Left{Heavy: 1}, false},
		{"h8r", dead.Left{Heavy: 1}, false},
		{"d3Q", dead.Left{Heavy: 1}, false},
		{"d6q", dead.Left{Heavy: 1}, false},
		{"e2P c3N", dead.Left{Heavy: 1, Knights: 1}, false},
		{"e2P c1B", dead.Left{Heavy: 1, Dark: 1}, false},
		{"e7p f1B", dead.Left{Heavy: 1, Light: 1}, false},
		{"e2P e7p", dead.Left{Heavy: 2}, false},
		{"a1R c3n", dead.Left{Heavy: 1, Knights: 1}, false},
		{"a1R c1B f8b", dead.Left{Heavy: 1, Dark: 2}, false},
		{"d3Q f1b", dead.Left{Heavy: 1, Light: 1}, false},
		{"d3Q c3N c1b f1B", dead.Left{Heavy: 1, Knights: 1, Dark: 1, Light: 1}, false},
		{"d3Q d6q a1R h8r e2P", dead.Left{Heavy: 5}, false},
		{"d3Q d6q a1R h8r e2P e7p b1N g8n c1B f1B c8b f8b", dead.Left{Heavy: 6, Knights: 2, Dark: 2, Light: 2}, false},
	} {
		whateverSides(t, "kings and "+c.puts, sample.Drawn(c.puts), c.left, c.is)
	}
}

// alone is what is left of one piece on a square.
func alone(kind api.Kind, s int) dead.Left {
	switch {
	case kind == api.Knight:
		return dead.Left{Knights: 1}
	case kind == api.Bishop && dark(s):
		return dead.Left{Dark: 1}
	case kind == api.Bishop:
		return dead.Left{Light: 1}
	case kind == api.King || kind == api.NoKind:
		return dead.Left{}
	}
	return dead.Left{Heavy: 1}
}

func sum(a, b dead.Left) dead.Left {
	return dead.Left{Heavy: a.Heavy + b.Heavy, Knights: a.Knights + b.Knights, Dark: a.Dark + b.Dark, Light: a.Light + b.Light}
}

// deadAlone says whether a piece alone leaves a position dead.
func deadAlone(kind api.Kind) bool {
	return kind == api.Knight || kind == api.Bishop
}

func TestOnEachSquare(t *testing.T) { // P13.1
	for s := range 64 {
		for _, x := range sample.Pieces() {
			p := sample.Bare()
			p.Squares[s] = x
			has(t, "one piece", p, alone(x.Kind, s), x.Kind == api.King || deadAlone(x.Kind))
		}
	}
}

// twoAreDead goes by what stands there: of two pieces that are no kings none but two bishops on one shade leave a position dead.
func twoAreDead(a, b api.Kind, at, bt int) bool {
	switch {
	case a == api.King && b == api.King:
		return true
	case a == api.King:
		return deadAlone(b)
	case b == api.King:
		return deadAlone(a)
	}
	return a == api.Bishop && b == api.Bishop && dark(at) == dark(bt)
}

func TestTwoOnEachSquares(t *testing.T) { // P13.1
	for at := range 64 {
		for bt := range 64 {
			for a := api.Pawn; at != bt && a <= api.King; a++ {
				for b := api.Pawn; b <= api.King; b++ {
					p := sample.Bare()
					p.Squares[at] = api.Piece{Kind: a}
					p.Squares[bt] = api.Piece{Kind: b, Side: api.Side((at + bt) / 2 % 2)}
					has(t, "two pieces", p, sum(alone(a, at), alone(b, bt)), twoAreDead(a, b, at, bt))
				}
			}
		}
		if t.Failed() {
			return
		}
	}
}

// TestFull has all squares full.
func TestFull(t *testing.T) { // P13.1
	for _, c := range []struct {
		onDark, onLight api.Kind
		left            dead.Left
		is              bool
	}{
		{api.King, api.King, dead.Left{}, true},
		{api.Bishop, api.King, dead.Left{Dark: 32}, true},
		{api.King, api.Bishop, dead.Left{Light: 32}, true},
		{api.Bishop, api.NoKind, dead.Left{Dark: 32}, true},
		{api.NoKind, api.Bishop, dead.Left{Light: 32}, true},
		{api.Bishop, api.Bishop, dead.Left{Dark: 32, Light: 32}, false},
		{api.Bishop, api.Knight, dead.Left{Knights: 32, Dark: 32}, false},
		{api.Knight, api.Knight, dead.Left{Knights: 64}, false},
		{api.Pawn, api.Pawn, dead.Left{Heavy: 64}, false},
		{api.Rook, api.Queen, dead.Left{Heavy: 64}, false},
		{api.King + 1, -1, dead.Left{Heavy: 64}, false},
		{api.Bishop, api.Pawn, dead.Left{Heavy: 32, Dark: 32}, false},
	} {
		p := sample.Bare()
		for s := range p.Squares {
			p.Squares[s].Kind = c.onLight
			if dark(s) {
				p.Squares[s].Kind = c.onDark
			}
		}
		if got := dead.Of(p); got != c.left || dead.Is(p) != c.is || got.Dead() != c.is {
			t.Errorf("kinds %d and %d: %+v, %v", c.onDark, c.onLight, got, dead.Is(p))
		}
	}
}

// TestBishopsOneByOne puts a bishop on each square of a shade, where the position stays dead, and then one on the other shade.
func TestBishopsOneByOne(t *testing.T) { // P13.1
	for _, onDark := range []bool{true, false} {
		p, n := sample.Bare(), 0
		for s := range 64 {
			if dark(s) != onDark {
				continue
			}
			p.Squares[s] = api.Piece{Kind: api.Bishop, Side: api.Side(s / 8 % 2)}
			n++
			left, more := dead.Left{Dark: n}, dead.Left{Dark: n, Light: 1}
			if !onDark {
				left, more = turned(left), turned(more)
			}
			has(t, "bishops of a shade", p, left, true)
			q := p
			q.Squares[s^1] = api.Piece{Kind: api.Bishop, Side: api.Side(s / 16 % 2)}
			has(t, "and one of the other", q, more, false)
		}
	}
}

// below are numbers that count as 0.
func below() []int {
	return []int{0, -1, -2, -3, -64, -255, -256, -1 << 16, -1 << 32, -1<<32 + 1, -1<<63 + 1, math.MinInt}
}

// above are numbers of more than one.
func above() []int {
	return []int{2, 3, 4, 31, 32, 62, 64, 255, 256, 257, 1 << 16, 1 << 31, 1 << 32, 1<<32 + 1, 1 << 62, math.MaxInt - 1, math.MaxInt}
}

func counts() []int { return append(append(below(), 1), above()...) }

// atLeastNone is a number, or 0, if it is below.
func atLeastNone(n int) int { return max(n, 0) }

// modelDead goes by the chapter's words.
func modelDead(l dead.Left) bool {
	heavy, knights, dark, light := atLeastNone(l.Heavy), atLeastNone(l.Knights), atLeastNone(l.Dark), atLeastNone(l.Light)
	nothing := knights == 0 && dark == 0 && light == 0
	oneKnight := knights == 1 && dark == 0 && light == 0
	oneShade := knights == 0 && (dark != 0) != (light != 0)
	return heavy == 0 && (nothing || oneKnight || oneShade)
}

func TestNumbers(t *testing.T) { // P13.1
	for _, heavy := range counts() {
		for _, knights := range counts() {
			for _, dark := range counts() {
				for _, light := range counts() {
					l := dead.Left{Heavy: heavy, Knights: knights, Dark: dark, Light: light}
					if got := l.Dead(); got != modelDead(l) {
						t.Fatalf("%+v: dead %v", l, got)
					}
				}
			}
		}
	}
}

func TestNumbersByHand(t *testing.T) { // P13.1
	for _, c := range []struct {
		left dead.Left
		is   bool
	}{
		{dead.Left{}, true},
		{dead.Left{Heavy: 1}, false},
		{dead.Left{Knights: 1}, true},
		{dead.Left{Knights: 2}, false},
		{dead.Left{Knights: 3}, false},
		{dead.Left{Dark: 1}, true},
		{dead.Left{Light: 1}, true},
		{dead.Left{Dark: 2}, true},
		{dead.Left{Light: 64}, true},
		{dead.Left{Dark: math.MaxInt}, true},
		{dead.Left{Light: math.MaxInt}, true},
		{dead.Left{Dark: math.MaxInt, Light: 1}, false},
		{dead.Left{Dark: math.MaxInt, Light: math.MaxInt}, false},
		{dead.Left{Dark: 1, Light: 1}, false},
		{dead.Left{Knights: 1, Dark: 1}, false},
		{dead.Left{Knights: 1, Light: 1}, false},
		{dead.Left{Heavy: -1}, true},
		{dead.Left{Knights: -1}, true},
		{dead.Left{Dark: -1}, true},
		{dead.Left{Light: -1}, true},
		{dead.Left{Heavy: -1, Knights: -3, Dark: -1, Light: 2}, true},
		{dead.Left{Heavy: -1, Knights: 1, Dark: -1, Light: -1}, true},
		{dead.Left{Heavy: -1, Knights: 2}, false},
		{dead.Left{Heavy: 1, Knights: -1}, false},
		{dead.Left{Heavy: 1, Dark: -1}, false},
		{dead.Left{Heavy: 2, Knights: -1, Dark: -1, Light: -1}, false},
		{dead.Left{Knights: 2, Dark: -1}, false},
		{dead.Left{Knights: 1, Dark: -1, Light: 1}, false},
		{dead.Left{Knights: 1, Dark: 2, Light: -2}, false},
		{dead.Left{Knights: -1, Dark: 2, Light: -2}, true},
		{dead.Left{Knights: -1, Dark: 1, Light: 1}, false},
		{dead.Left{Heavy: -2, Dark: 1, Light: 1}, false},
		{dead.Left{Heavy: math.MinInt}, true},
		{dead.Left{Knights: math.MinInt}, true},
		{dead.Left{Dark: math.MinInt}, true},
		{dead.Left{Light: math.MinInt}, true},
		{dead.Left{Heavy: math.MinInt, Knights: math.MinInt, Dark: math.MinInt, Light: math.MinInt}, true},
		{dead.Left{Heavy: math.MinInt, Knights: 2}, false},
		{dead.Left{Heavy: 1, Knights: math.MinInt, Dark: math.MinInt}, false},
		{dead.Left{Knights: 1, Dark: math.MinInt, Light: math.MinInt}, true},
	} {
		was := c.left
		if got := c.left.Dead(); got != c.is || c.left != was {
			t.Errorf("%+v: dead %v, want %v", was, got, c.is)
		}
	}
}
