package ends_test

import (
	"strings"
	"testing"

	"zugzwang/api"
	"zugzwang/board"
	"zugzwang/ends"
	"zugzwang/legal"
	"zugzwang/sample"
)

// limits asks whether a position is fifty, and seventy, and so that turned.
func limits(t *testing.T, what string, p api.Position, fifty, seventy bool) {
	t.Helper()
	for _, q := range []api.Position{p, board.Turn(p)} {
		if ends.Fifty(q) != fifty || ends.Seventy(q) != seventy {
			t.Errorf("%s, Half %d: fifty %v, seventy %v, want %v, %v, of %v", what, q.Half, ends.Fifty(q), ends.Seventy(q), fifty, seventy, q)
		}
	}
}

func TestLimits(t *testing.T) { // P11.2, P11.3
	all := append(sample.Mates(), sample.Stalemates()...)
	for _, p := range append(sample.Right(), sample.Black(sample.Begin()), sample.Black(sample.Midst())) {
		all = append(all, sample.Named{What: "open", Position: p})
	}
	for _, c := range sample.Known() {
		all = append(all, sample.Named{What: "in a game", Position: c.Position})
	}
	for _, c := range all {
		if c.Position.Over != api.NoSquare {
			limits(t, c.What, c.Position, false, false)
			c.Position.Over = api.NoSquare
		}
		for half, want := range map[int][2]bool{
			0: {}, 1: {}, 49: {}, 50: {}, 51: {}, 74: {}, 75: {}, 98: {}, 99: {},
			100: {true, false}, 101: {true, false}, 148: {true, false}, 149: {true, false},
			150: {true, true}, 151: {true, true}, 256: {true, true}, 1023: {true, true}, 1024: {true, true},
		} {
			for _, full := range []int{1, 76, api.MaxFull} {
				limits(t, c.What, sample.Counts(c.Position, half, full), want[0], want[1])
			}
		}
	}
}

// TestEachHalf has each Half that may be.
func TestEachHalf(t *testing.T) { // P11.2, P11.3
	for half := range api.MaxHalf + 1 {
		p := sample.Counts(sample.Midst(), half, 200)
		limits(t, "in the midst", p, half >= 100, half >= 150)
		if ends.Seventy(p) && !ends.Fifty(p) {
			t.Errorf("Half %d is seventy, but not fifty", half)
		}
	}
}

// TestLimitsPlayed has knights go out and back, and pawns go on once.
func TestLimitsPlayed(t *testing.T) { // P11.2
	knights := strings.Repeat("g1f3 g8f6 f3g1 f6g8 ", 40)
	p, quiet := board.Start(), 0
	for _, m := range sample.Moves(knights + "e2e3 e7e6 " + knights) {
		behind, errno := legal.Play(p, m)
		if errno != api.OK {
			t.Fatalf("%v: %d", m, errno)
		}
		if quiet++; p.Squares[m.From].Kind == api.Pawn {
			quiet = 0
		}
		p = behind
		limits(t, "played", p, quiet >= 100, quiet >= 150)
		is(t, "played", p, api.Open, api.NoReason)
	}
}

func TestWins(t *testing.T) { // P11.2
	if ends.Wins(api.White) != api.WhiteWins || ends.Wins(api.Black) != api.BlackWins {
		t.Errorf("white %d, black %d", ends.Wins(api.White), ends.Wins(api.Black))
	}
	for _, s := range sample.WrongSides() {
		if got := ends.Wins(s); got != api.WhiteWins {
			t.Errorf("side %d: %d", s, got)
		}
	}
}
