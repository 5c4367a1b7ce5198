package dead_test

import (
	"math"
	"testing"

	"zugzwang/api"
	"zugzwang/board"
	"zugzwang/dead"
	"zugzwang/sample"
)

// wrongKinds are none of the six, and not none; many are one of the six, if one takes less than all of their bits, or leaves their sign out.
func wrongKinds() []api.Kind {
	all := sample.WrongKinds()
	for kind := range api.King + 1 {
		for _, far := range []api.Kind{7, 8, 16, 64, 128, 256, 1 << 16, 1 << 31, 1 << 32, 1 << 62, math.MaxInt - 6, -7, -8, -16, -256, -1 << 32, math.MinInt} {
			all = append(all, far+kind)
		}
		if kind != api.NoKind {
			all = append(all, -kind)
		}
	}
	var wrong []api.Kind
	for _, kind := range all {
		if kind < api.NoKind || kind > api.King {
			wrong = append(wrong, kind)
		}
	}
	return wrong
}

func anySides() []api.Side {
	return append(sample.WrongSides(), api.White, api.Black)
}

// TestWrongKinds has things with a Kind that is none of the six: each is heavy, whatever else stands there.
func TestWrongKinds(t *testing.T) { // P13.1
	for i, kind := range wrongKinds() {
		for _, side := range anySides() {
			s := i * 7 % 64
			p := sample.Bare()
			p.Squares[s] = api.Piece{Kind: kind, Side: side}
			has(t, "what is no piece", p, dead.Left{Heavy: 1}, false)
			q := sample.Drawn("e1K e8k")
			q.Squares[28] = p.Squares[s]
			has(t, "what is no piece, beside kings", q, dead.Left{Heavy: 1}, false)
			has(t, "what is no piece, beside kings and a knight", sample.Set(q, "b1N"), dead.Left{Heavy: 1, Knights: 1}, false)
			has(t, "what is no piece, beside kings and a bishop", sample.Set(q, "c1B"), dead.Left{Heavy: 1, Dark: 1}, false)
		}
	}
	for s := range 64 {
		for _, kind := range []api.Kind{-1, 7, 9, 256, math.MinInt} {
			p := sample.Bare()
			p.Squares[s].Kind = kind
			has(t, "what is no piece, on each square", p, dead.Left{Heavy: 1}, false)
		}
	}
}

// TestWrongSides has pieces with a Side that is none: they count as any of their Kind.
func TestWrongSides(t *testing.T) { // P13.1
	for _, side := range anySides() {
		for s := range 64 {
			for kind := api.Pawn; kind <= api.King; kind++ {
				p := sample.Bare()
				p.Squares[s] = api.Piece{Kind: kind, Side: side}
				has(t, "a piece of a Side that is none", p, alone(kind, s), kind == api.King || deadAlone(kind))
			}
		}
		p := sample.Drawn("e1K e8k")
		p.Squares[2], p.Squares[61] = api.Piece{Kind: api.Bishop, Side: side}, api.Piece{Kind: api.Bishop}
		has(t, "two bishops on dark squares", p, dead.Left{Dark: 2}, true)
		p.Squares[58] = api.Piece{Kind: api.Bishop, Side: side}
		has(t, "bishops on both", p, dead.Left{Dark: 2, Light: 1}, false)
		q := sample.Drawn("e1K e8k b1N")
		q.Squares[62] = api.Piece{Kind: api.Knight, Side: side}
		has(t, "two knights", q, dead.Left{Knights: 2}, false)
	}
}

// TestNoKindOfASide has things of NoKind with a Side: they count as nothing.
func TestNoKindOfASide(t *testing.T) { // P13.1
	for _, side := range anySides() {
		for s := range 64 {
			p := sample.Bare()
			p.Squares[s].Side = side
			has(t, "a side without a kind", p, dead.Left{}, true)
		}
		p := sample.Drawn("e1K e8k c1B f8b")
		q := sample.Drawn("e1K e8k c1B f8b b1N")
		for s := range 64 {
			if p.Squares[s] == (api.Piece{}) {
				p.Squares[s].Side = side
			}
			if q.Squares[s] == (api.Piece{}) {
				q.Squares[s].Side = side
			}
		}
		has(t, "sides without kinds all over", p, dead.Left{Dark: 2}, true)
		has(t, "sides without kinds all over, and a knight", q, dead.Left{Knights: 1, Dark: 2}, false)
	}
}

// otherwise are a position's squares in positions that are otherwise in all else, right or not.
func otherwise(p api.Position) []api.Position {
	all := []api.Position{{Squares: p.Squares}}
	for _, side := range anySides() {
		q := p
		q.Side = side
		all = append(all, q)
	}
	for _, has := range append(sample.WrongCastles(), 0, 1, 2, 4, 8, 15) {
		all = append(all, sample.Castle(p, has))
	}
	for _, s := range append(sample.WrongSquares(), 0, 4, 20, 43, 63) {
		q := p
		q.Over = s
		all = append(all, q)
	}
	for _, n := range []int{0, 1, 2, 99, 100, 150, 1024, 1025, 16384, 16385, -1, -100, 1 << 32, -1 << 32, math.MaxInt, math.MinInt} {
		all = append(all, sample.Counts(p, n, p.Full), sample.Counts(p, p.Half, n), sample.Counts(p, n, n))
	}
	return append(all, api.Position{Squares: p.Squares, Side: math.MinInt, Castle: math.MinInt, Over: math.MinInt, Half: math.MinInt, Full: math.MinInt})
}

// TestSquaresAlone has all else of positions changed, with numbers that may be, and far off.
func TestSquaresAlone(t *testing.T) { // P13.1
	all := sample.Right()
	for _, puts := range []string{"", "e1K e8k", "e1K e8k b1N", "e1K e8k b1N g8n", "e1K e8k c1B f8b", "e1K e8k c1B c8b", "e1K e8k c1B b1N", "e1K e8k e2P", "e1K e8k b1?", "e1K e8k b1!", "e1K"} {
		all = append(all, sample.Drawn(puts))
	}
	for _, p := range all {
		left, is := dead.Of(p), dead.Is(p)
		for _, q := range otherwise(p) {
			was := q
			if dead.Of(q) != left || dead.Is(q) != is {
				t.Errorf("%+v, %v, want %+v, %v, of %v", dead.Of(q), dead.Is(q), left, is, q)
			}
			if q != was {
				t.Errorf("%v became %v", was, q)
			}
		}
	}
}

// TestNotRight has positions that are in one thing not right.
func TestNotRight(t *testing.T) { // P13.1
	for _, p := range append(sample.Right(), sample.Drawn("e1K e8k"), sample.Drawn("e1K e8k c1B f8b"), sample.Drawn("e1K e8k b8n")) {
		for _, wrong := range sample.Spoilt(p) {
			lawsOf(t, wrong.Position)
			lawsOf(t, board.Turn(wrong.Position))
		}
		if t.Failed() {
			return
		}
	}
	has(t, "a zero position", api.Position{}, dead.Left{}, true)
}
