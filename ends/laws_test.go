package ends_test

import (
	"math/rand"
	"testing"

	"zugzwang/api"
	"zugzwang/attack"
	"zugzwang/board"
	"zugzwang/ends"
	"zugzwang/legal"
	"zugzwang/moves"
	"zugzwang/play"
	"zugzwang/sample"
)

func castles(p api.Position, m api.Move) bool {
	return p.Squares[m.From].Kind == api.King && (m.To-m.From)*(m.To-m.From) == 4
}

// isStuck says whether a side is in check behind all moves that it has as pieces go. A castling is left out: it is legal only where its king's one step is, too.
func isStuck(p api.Position) bool {
	for _, m := range moves.All(p) {
		if behind, _ := play.Move(p, m); !castles(p, m) && !attack.Check(behind, p.Side) {
			return false
		}
	}
	return true
}

func model(p api.Position) (api.Result, api.Reason) {
	switch {
	case !legal.Position(p) || !isStuck(p):
		return api.Open, api.NoReason
	case attack.Check(p, p.Side):
		return otherWins(p), api.Mate
	}
	return api.Drawn, api.Stalemate
}

// seen counts how positions ended that were tried.
type seen [4]int

// laws asks what holds of each position, and of that turned.
func (n *seen) laws(t *testing.T, p api.Position) {
	t.Helper()
	result, reason := model(p)
	n[result]++
	is(t, "by the model", p, result, reason)
	is(t, "by the model, turned", board.Turn(p), sample.TurnedResult(result), reason)
	if played := legal.Position(p); ends.Fifty(p) != (played && p.Half >= 100) || ends.Seventy(p) != (played && p.Half >= 150) {
		t.Errorf("Half %d, may be played on: %v: fifty %v, seventy %v", p.Half, played, ends.Fifty(p), ends.Seventy(p))
	}
	if ends.Fifty(p) != ends.Fifty(board.Turn(p)) || ends.Seventy(p) != ends.Seventy(board.Turn(p)) {
		t.Errorf("turned: fifty %v, seventy %v", ends.Fifty(board.Turn(p)), ends.Seventy(board.Turn(p)))
	}
	if t.Failed() {
		t.Fatalf("of %v", p)
	}
}

// hunted is a position in which many strong pieces are about a king that moves, with few of its own.
func hunted(r *rand.Rand) api.Position {
	p := sample.Bare()
	for range 1 + r.Intn(5) {
		p.Squares[r.Intn(64)] = sample.Piece("QQRRBNP"[r.Intn(7)])
	}
	for range r.Intn(4) {
		p.Squares[r.Intn(64)] = sample.Piece("ppppnbr"[r.Intn(7)])
	}
	at := []int{r.Intn(64), 56 + r.Intn(8), 8 * r.Intn(8)}[r.Intn(3)]
	p.Squares[r.Intn(64)] = sample.Piece('K')
	p.Squares[at] = sample.Piece('k')
	p.Half = r.Intn(200)
	return sample.Black(p)
}

func TestByModel(t *testing.T) { // P11.1, P11.2, P11.3
	r := rand.New(rand.NewSource(111))
	var n seen
	for range 40000 {
		n.laws(t, hunted(r))
	}
	for range 3000 {
		n.laws(t, sample.AnyRight(r.Intn))
		n.laws(t, sample.Scattered(r.Intn))
	}
	if n[api.Open] < 5000 || n[api.WhiteWins] < 300 || n[api.Drawn] < 100 {
		t.Errorf("%v: that tries little", n)
	}
}

// TestGamesByModel goes on from right positions by legal moves, to the end or far.
func TestGamesByModel(t *testing.T) { // P11.1, P11.3
	r := rand.New(rand.NewSource(112))
	var n seen
	for _, p := range append(sample.Right(), sample.Drawn("e1K a2Q h2R e8k"), sample.Drawn("e1K e8k a7q h7r")) {
		for range 10 {
			for q := p; ; {
				n.laws(t, q)
				l := legal.Moves(q)
				if len(l) == 0 || q.Full > 60+p.Full {
					break
				}
				q, _ = legal.Play(q, l[r.Intn(len(l))])
			}
		}
	}
	if n[api.WhiteWins]+n[api.BlackWins] < 5 || n[api.Drawn] < 1 {
		t.Errorf("%v: that tries little", n)
	}
}

// TestKnownNumbers has the positions of a lone king against a king and one piece, of which it is known how many are mates. Half of them are tried: on the files e to h the lone king stands as on d to a.
func TestKnownNumbers(t *testing.T) { // P11.1
	for letter, want := range map[byte]int{'Q': 364, 'R': 216} {
		var n seen
		for at := range 64 * 64 * 64 {
			white, other, black := at%64, at/64%64, at/64/64
			if black%8 > 3 || white == other || white == black || other == black {
				continue
			}
			p := sample.Black(sample.Bare())
			p.Squares[white], p.Squares[other], p.Squares[black] = sample.Piece('K'), sample.Piece(letter), sample.Piece('k')
			result, _ := ends.Of(p)
			n[result]++
		}
		if 2*n[api.WhiteWins] != want || n[api.BlackWins] != 0 || n[api.Drawn] == 0 {
			t.Errorf("%c: %v, half of %d are mates", letter, n, want)
		}
	}
}

// TestCastlingNeverAlone has castlings that are legal: a step of the king is, too.
func TestCastlingNeverAlone(t *testing.T) { // P11.1
	r := rand.New(rand.NewSource(113))
	tried := 0
	for range 4000 {
		p := sample.AnyRight(r.Intn)
		for _, m := range legal.Moves(p) {
			if castles(p, m) {
				tried++
				if !legal.Is(p, api.Move{From: m.From, To: (m.From + m.To) / 2}) {
					t.Errorf("%v castles, but takes no step, in %v", m, p)
				}
				is(t, "with a castling", p, api.Open, api.NoReason)
			}
		}
	}
	if tried < 200 {
		t.Errorf("%d: that tries little", tried)
	}
}

func TestArgumentsStay(t *testing.T) { // R3, R4
	all := append(ended(), sample.OtherInCheck()...)
	for _, p := range append(sample.Right(), api.Position{Side: 5, Castle: -1, Over: 99, Half: -1}) {
		all = append(all, sample.Named{What: "a position", Position: p})
	}
	for _, c := range all {
		p := c.Position
		result, reason := ends.Of(p)
		fifty, seventy := ends.Fifty(p), ends.Seventy(p)
		if p != c.Position {
			t.Errorf("%s: %v became %v", c.What, c.Position, p)
		}
		is(t, c.What+", once more", p, result, reason)
		if ends.Fifty(p) != fifty || ends.Seventy(p) != seventy {
			t.Errorf("%s: answered otherwise once more", c.What)
		}
	}
}
