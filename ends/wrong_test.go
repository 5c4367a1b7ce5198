package ends_test

import (
	"testing"

	"zugzwang/api"
	"zugzwang/attack"
	"zugzwang/board"
	"zugzwang/ends"
	"zugzwang/legal"
	"zugzwang/sample"
)

// refuses asks what is answered of a position that may not be played on.
func refuses(t *testing.T, what string, p api.Position) {
	t.Helper()
	if legal.Position(p) {
		t.Fatalf("%s: %v may be played on", what, p)
	}
	is(t, what, p, api.Open, api.NoReason)
	if ends.Fifty(p) || ends.Seventy(p) {
		t.Errorf("%s, Half %d: fifty %v, seventy %v, of %v", what, p.Half, ends.Fifty(p), ends.Seventy(p), p)
	}
	if t.Failed() {
		t.FailNow()
	}
}

// refusesAll asks it of positions that have no Over, with a Half below and from each limit on.
func refusesAll(t *testing.T, what string, p api.Position) {
	t.Helper()
	for _, half := range []int{0, 99, 100, 150, api.MaxHalf} {
		refuses(t, what, sample.Counts(p, half, p.Full))
		refuses(t, what+", turned", board.Turn(sample.Counts(p, half, p.Full)))
	}
}

// ended are all mates and stalemates.
func ended() []sample.Named {
	return append(sample.Mates(), sample.Stalemates()...)
}

func TestNotRight(t *testing.T) { // P11.1, P11.2
	refusesAll(t, "a bare board", sample.Bare())
	refusesAll(t, "a bare board, of black", sample.Black(sample.Bare()))
	refusesAll(t, "a zero position", api.Position{})
	all := ended()
	for _, p := range sample.Right() {
		all = append(all, sample.Named{What: "open", Position: p})
	}
	for _, c := range all {
		halves := []int{0, 100, 150}
		if c.Position.Over != api.NoSquare {
			halves = halves[:1]
		}
		for _, half := range halves {
			for _, wrong := range sample.Spoilt(sample.Counts(c.Position, half, c.Position.Full)) {
				refuses(t, c.What+" "+wrong.What, wrong.Position)
			}
		}
	}
}

func TestOtherInCheck(t *testing.T) { // P11.1, P11.2
	for _, c := range sample.OtherInCheck() {
		refusesAll(t, c.What, c.Position)
	}
	for _, c := range sample.Mates() { // who is mated is in check: the other side may not be the one that moves
		p := c.Position
		p.Side, p.Over = board.Other(p.Side), api.NoSquare
		refusesAll(t, "mate, but the other side moves", p)
	}
}

// TestBothInCheck has mates and stalemates in which one more piece of the side that moves attacks the other side's king.
func TestBothInCheck(t *testing.T) { // P11.1, P11.2
	tried := 0
	for _, c := range ended() {
		for _, s := range board.Find(c.Position, api.Piece{}) {
			for kind := api.Knight; kind <= api.Queen; kind++ {
				p := c.Position
				p.Over, p.Squares[s] = api.NoSquare, api.Piece{Kind: kind, Side: p.Side}
				if attack.Check(p, board.Other(p.Side)) {
					tried++
					refusesAll(t, "both in check", p)
				}
			}
		}
	}
	if tried < 500 {
		t.Errorf("%d: that tries little", tried)
	}
}

// TestKings has too many kings, or too few, of whichever side, where else it were a mate or a stalemate.
func TestKings(t *testing.T) { // P11.1, P11.2
	for _, puts := range []string{"g8k g7Q", "f6K g7Q", "h8k f7Q", "f6K f7Q", "f6K g7Q g8k a1k", "f6K g7Q g8k a1K", "f6K f7Q h8k a1k", "f6K f7Q h8k a1K", "f6K c6K g7Q g8k a8k", "f6k g7Q g8k"} {
		refusesAll(t, puts, sample.Black(sample.Drawn(puts)))
	}
}
