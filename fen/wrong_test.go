package fen_test

import (
	"math"
	"math/rand"
	"strconv"
	"testing"

	"zugzwang/api"
	"zugzwang/board"
	"zugzwang/fen"
	"zugzwang/sample"
)

// notShown asks that a position that is not right has no text, and that the text of its shape, if there is one, is none either.
func notShown(t *testing.T, what string, p api.Position) bool {
	t.Helper()
	if text, errno := fen.Show(p); text != "" || errno != api.ErrArg {
		t.Errorf("%s: shown as %q, %d, of %v", what, text, errno, p)
	}
	if hasText(p) {
		parses(t, what, modelText(p), api.Position{}, 0, api.ErrArg)
	}
	return hasText(p)
}

// TestNotRight has positions that are not right, in each way in which one can be so.
func TestNotRight(t *testing.T) { // P15.1, P15.2
	withText, without := 0, 0
	all := append(sample.Right(), sample.Castle(sample.Drawn("a1R e1K h1R a8r e8k h8r"), 15), sample.Drawn("c3K f6k"))
	for _, p := range all {
		for _, q := range []api.Position{p, board.Turn(p)} {
			for _, wrong := range sample.Spoilt(q) {
				if notShown(t, wrong.What, wrong.Position) {
					withText++
				} else {
					without++
				}
			}
		}
	}
	if withText < 2000 || without < 1000 {
		t.Errorf("%d have a text, %d have none: that tries little", withText, without)
	}
	notShown(t, "a bare board", board.Empty())
	notShown(t, "a zero position", api.Position{})
	notShown(t, "numbers far below", api.Position{Side: math.MinInt, Castle: math.MinInt, Over: math.MinInt, Half: math.MinInt, Full: math.MinInt})
	notShown(t, "numbers far above", api.Position{Side: math.MaxInt, Castle: math.MaxInt, Over: math.MaxInt, Half: math.MaxInt, Full: math.MaxInt})
}

// TestWrongPieces has what is no piece on each square of a right position.
func TestWrongPieces(t *testing.T) { // P15.1
	for i, x := range sample.WrongPieces() {
		for _, p := range []api.Position{sample.Begin(), sample.Midst(), sample.Drawn("e1K e8k")} {
			p.Squares[(11*i+17)%64] = x
			notShown(t, "what is no piece", p)
		}
	}
	for s := range 64 {
		p := sample.Drawn("e1K e8k")
		p.Squares[s] = sample.Piece('!')
		notShown(t, "black's none", p)
		p.Squares[s] = sample.Piece('?')
		notShown(t, "of no kind", p)
	}
}

// TestNoRightTexts has texts that have the shape, by hand, and are no right position's.
func TestNoRightTexts(t *testing.T) { // P15.2
	for what, text := range map[string]string{
		"no kings":                          "8/8/8/8/8/8/8/8 w - - 0 1",
		"no white king":                     "4k3/8/8/8/8/8/8/8 w - - 0 1",
		"no black king":                     "8/8/8/8/8/8/8/4K3 w - - 0 1",
		"two white kings":                   "4k3/8/8/8/8/8/8/4KK2 w - - 0 1",
		"two black kings":                   "4kk2/8/8/8/8/8/8/4K3 w - - 0 1",
		"a white pawn on the first rank":    "4k3/8/8/8/8/8/8/P3K3 w - - 0 1",
		"a white pawn on the last rank":     "P3k3/8/8/8/8/8/8/4K3 w - - 0 1",
		"a black pawn on the first rank":    "4k3/8/8/8/8/8/8/4K2p w - - 0 1",
		"a black pawn on the last rank":     "4k2p/8/8/8/8/8/8/4K3 w - - 0 1",
		"a castling without a rook":         kings + " w K - 0 1",
		"a castling without a rook, long":   "4k3/8/8/8/8/8/8/4K2R w Q - 0 1",
		"a castling without a king":         "4k3/8/8/8/8/8/8/3K3R w K - 0 1",
		"a castling of the other's rook":    "4k3/8/8/8/8/8/8/4K2r w K - 0 1",
		"a castling of black's, no rook":    "4k3/8/8/8/8/8/8/R3K2R w KQk - 0 1",
		"a castling of black's, no king":    "r2k3r/8/8/8/8/8/8/R3K2R w q - 0 1",
		"all castlings, none may be":        kings + " w KQkq - 0 1",
		"over a square, no pawn":            kings + " w - e6 0 1",
		"over a square of another rank":     "4k3/8/8/4p3/8/8/8/4K3 w - e5 0 1",
		"over a square of the other side's": "4k3/8/8/8/4P3/8/8/4K3 w - e3 0 1",
		"over a square, black's turn":       "4k3/8/8/4p3/8/8/8/4K3 b - e6 0 1",
		"over a square that is taken":       "4k3/8/4n3/4p3/8/8/8/4K3 w - e6 0 1",
		"over from a square that is taken":  "4k3/4n3/8/4p3/8/8/8/4K3 w - e6 0 1",
		"over a square, by a knight":        "4k3/8/8/4n3/8/8/8/4K3 w - e6 0 1",
		"over a square, by one's own pawn":  "4k3/8/8/4P3/8/8/8/4K3 w - e6 0 1",
		"over a square, a move ago":         "4k3/8/8/4p3/8/8/8/4K3 w - e6 1 1",
		"over a1":                           kings + " w - a1 0 1",
		"over h8":                           kings + " b - h8 0 1",
		"a Half of 1025":                    kings + " w - - 1025 1",
		"a Half of 1026":                    kings + " w - - 1026 1",
		"a Half of four nines":              kings + " w - - 9999 1",
		"a Half of six digits":              kings + " w - - 100000 1",
		"a Half of six nines":               kings + " w - - 999999 1",
		"a Half of 2^16":                    kings + " w - - 65536 1",
		"a Full of 0":                       kings + " w - - 0 0",
		"a Full of 16385":                   kings + " w - - 0 16385",
		"a Full of 2^16 and 1":              kings + " w - - 0 65537",
		"a Full of six digits":              kings + " w - - 0 100000",
		"a Full of six nines":               kings + " w - - 0 999999",
	} {
		if !isShape(text) {
			t.Errorf("%s: %q has no shape", what, text)
		}
		parses(t, what, text, api.Position{}, 0, api.ErrArg)
	}
	parses(t, "a Half of 1024", kings+" w - - 1024 1", sample.Counts(sample.Drawn("e1K e8k"), 1024, 1), 0, api.OK)
	parses(t, "a Full of 16384", kings+" w - - 0 16384", sample.Counts(sample.Drawn("e1K e8k"), 0, 16384), 0, api.OK)
}

// TestEachOver has each square as one that a pawn went over, with either side to move.
func TestEachOver(t *testing.T) { // P15.1, P15.2
	for _, p := range []api.Position{sample.WhiteLeapt(), sample.BlackLeapt(), sample.Begin(), sample.Drawn("e1K e8k a4P a5p h4P h5p d4P e5p")} {
		for s := range 64 {
			for _, side := range []api.Side{api.White, api.Black} {
				q := p
				q.Over, q.Side, q.Half = s, side, 0
				if board.Right(q) {
					bothWays(t, "over a square", q, modelText(q))
				} else {
					notShown(t, "over a square", q)
				}
			}
		}
	}
}

// TestNumbersOfSixDigits has numbers up to the greatest that the shape has, as Half and as Full.
func TestNumbersOfSixDigits(t *testing.T) { // P15.2
	p := sample.Drawn("e1K e8k")
	for n := 0; n < 1000000; n += 1 + n/100 {
		text, errno := kings+" w - - "+strconv.Itoa(n), api.OK
		q := sample.Counts(p, n, 5)
		if n > 1024 {
			q, errno = api.Position{}, api.ErrArg
		}
		parses(t, "a Half", text+" 5", q, 0, errno)
		text, errno = kings+" w - - 5 "+strconv.Itoa(n), api.OK
		q = sample.Counts(p, 5, n)
		if n < 1 || n > 16384 {
			q, errno = api.Position{}, api.ErrArg
		}
		parses(t, "a Full", text, q, 0, errno)
	}
}

// TestScattered has positions with anything on their squares, right or not.
func TestScattered(t *testing.T) { // P15.1, P15.2
	r := rand.New(rand.NewSource(152))
	withText := 0
	for range 20000 {
		p := sample.Scattered(r.Intn)
		if board.Right(p) {
			bothWays(t, "a scattered one", p, modelText(p))
		} else if notShown(t, "a scattered one", p) {
			withText++
		}
	}
	if withText < 1000 {
		t.Errorf("%d have a text: that tries little", withText)
	}
}
