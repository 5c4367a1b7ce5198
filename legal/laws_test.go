package legal_test

import (
	"math/rand"
	"slices"
	"testing"

	"zugzwang/api"
	"zugzwang/board"
	"zugzwang/legal"
	"zugzwang/moves"
	"zugzwang/play"
	"zugzwang/sample"
)

// takesKing says whether the side that moves could take a king of the other side. The tests' own model has it by how pieces go: what is attacked it does not ask.
func takesKing(p api.Position) bool {
	king := api.Piece{Kind: api.King, Side: 1 - p.Side}
	return slices.ContainsFunc(moves.All(p), func(m api.Move) bool { return p.Squares[m.To] == king })
}

func passed(p api.Position) api.Position {
	p.Side = 1 - p.Side
	return p
}

func isCastling(p api.Position, m api.Move) bool {
	return p.Squares[m.From].Kind == api.King && (m.To-m.From)*(m.To-m.From) == 4
}

// onWay has the king of a castling stand on the square that it goes over.
func onWay(p api.Position, m api.Move) api.Position {
	p.Squares[(m.From+m.To)/2], p.Squares[m.From] = p.Squares[m.From], api.Piece{}
	return p
}

func modelPosition(p api.Position) bool { return board.Right(p) && !takesKing(p) }

func modelLegal(p api.Position) []api.Move {
	var l []api.Move
	if !modelPosition(p) {
		return nil
	}
	for _, m := range moves.All(p) {
		behind, _ := play.Move(p, m)
		through := isCastling(p, m) && (takesKing(passed(p)) || takesKing(passed(onWay(p, m))))
		if !takesKing(behind) && !through {
			l = append(l, m)
		}
	}
	return l
}

// tried counts of what sorts the positions were that were tried.
type tried struct {
	played, checked, ended             int
	castled, notCastled, over, notOver int
}

func (n *tried) count(p api.Position, l []api.Move) {
	n.played++
	if takesKing(passed(p)) {
		n.checked++
	}
	if len(l) == 0 {
		n.ended++
	}
	for _, m := range moves.All(p) {
		is := slices.Contains(l, m)
		takesOver := p.Squares[m.From].Kind == api.Pawn && m.To == p.Over && (m.To-m.From)%8 != 0
		switch {
		case isCastling(p, m) && is:
			n.castled++
		case isCastling(p, m):
			n.notCastled++
		case takesOver && is:
			n.over++
		case takesOver:
			n.notOver++
		}
	}
}

// laws asks what holds of the legal moves of each position that may be played on.
func laws(t *testing.T, p api.Position, want []api.Move) {
	t.Helper()
	l := legal.Moves(p)
	if !slices.Equal(l, want) || !legal.Position(p) {
		t.Errorf("%v, want %v", l, want)
	}
	for i, m := range l {
		if i > 0 && (!moves.Less(l[i-1], m) || l[i-1] == m) {
			t.Errorf("%v is not behind %v", m, l[i-1])
		}
		behind, _ := play.Move(p, m)
		if got, errno := legal.Play(p, m); errno != api.OK || got != behind || !legal.Position(got) {
			t.Errorf("%v: %d, %v, want %v, which may be played on", m, errno, got, behind)
		}
	}
	for _, m := range moves.All(p) {
		is := slices.Contains(want, m)
		if legal.Is(p, m) != is {
			t.Errorf("%v is legal or not: %v", m, !is)
		}
		if got, errno := legal.Play(p, m); !is && (errno != api.ErrMove || got != (api.Position{})) {
			t.Errorf("%v: %d, %v", m, errno, got)
		}
	}
	if got := legal.Moves(board.Turn(p)); !slices.Equal(got, turned(want)) {
		t.Errorf("turned: %v, want %v", got, turned(want))
	}
	if legal.Count(p, 0) != 1 || legal.Count(p, 1) != len(want) || legal.Count(board.Turn(p), 1) != len(want) {
		t.Errorf("%d and %d rows, want 1 and %d", legal.Count(p, 0), legal.Count(p, 1), len(want))
	}
	if t.Failed() {
		t.Fatalf("of %v", p)
	}
}

func TestByModel(t *testing.T) { // P10.1, P10.2, P10.4
	r := rand.New(rand.NewSource(101))
	var n tried
	for range 6000 {
		p := sample.AnyRight(r.Intn)
		if !modelPosition(p) {
			refuses(t, "by the model", p)
			continue
		}
		want := modelLegal(p)
		laws(t, p, want)
		n.count(p, want)
	}
	if n.played < 2500 || n.checked < 500 || n.ended < 20 || n.castled < 300 || n.notCastled < 300 || n.over < 300 || n.notOver < 300 {
		t.Errorf("%+v: that tries little", n)
	}
}

// TestScattered has positions with anything on their squares, few of which are right.
func TestScattered(t *testing.T) { // P10.1, P10.2, P10.3
	r := rand.New(rand.NewSource(102))
	for range 2000 {
		p := sample.Scattered(r.Intn)
		if modelPosition(p) {
			laws(t, p, modelLegal(p))
		} else {
			refuses(t, "scattered", p)
		}
	}
}

// TestGames goes on from right positions by legal moves.
func TestGames(t *testing.T) { // P10.1, P10.2, P10.4
	r := rand.New(rand.NewSource(103))
	for _, p := range sample.Right() {
		for range 12 {
			begun, row := p, []api.Move{}
			for q := p; len(row) < 60; {
				l := modelLegal(q)
				laws(t, q, l)
				if len(l) == 0 {
					break
				}
				row = append(row, l[r.Intn(len(l))])
				q, _ = play.Move(q, row[len(row)-1])
			}
			want, _ := play.Moves(begun, row...)
			if got, errno := legal.Play(begun, row...); errno != api.OK || got != want {
				t.Fatalf("%v of %v: %d, %v, want %v", row, begun, errno, got, want)
			}
		}
	}
}

// TestIsJustThese asks each move that there is.
func TestIsJustThese(t *testing.T) { // P10.1
	for _, p := range append(sample.Right(), sample.Black(sample.Midst()), sample.Black(sample.Late()), drawn("e1K d3R f3N h5B a7k e8r")) {
		n, l := 0, legal.Moves(p)
		for from := -1; from <= 64; from++ {
			for to := -1; to <= 64; to++ {
				for becomes := api.Kind(-1); becomes <= 7; becomes++ {
					m := api.Move{From: from, To: to, Becomes: becomes}
					if legal.Is(p, m) {
						n++
						if !slices.Contains(l, m) {
							t.Errorf("%v is legal in %v", m, p)
						}
					}
				}
			}
		}
		if n != len(l) {
			t.Errorf("%d are legal in %v, want %d", n, p, len(l))
		}
	}
}

func TestSums(t *testing.T) { // P10.3, P10.4
	r := rand.New(rand.NewSource(104))
	positions := sample.Right()
	for len(positions) < 25 {
		if p := sample.AnyRight(r.Intn); legal.Position(p) && legal.Count(p, 1) < 40 {
			positions = append(positions, p)
		}
	}
	for _, p := range positions {
		for deep := range 3 {
			sum := 0
			for _, m := range legal.Moves(p) {
				q, _ := legal.Play(p, m)
				sum += legal.Count(q, deep)
			}
			if got := legal.Count(p, deep+1); got != sum {
				t.Errorf("%d rows of %d, %d behind each move, of %v", got, deep+1, sum, p)
			}
		}
		if most := legal.Count(p, 3); legal.Count(p, 4) != most || legal.Count(board.Turn(p), 3) != most {
			t.Errorf("%d rows of 4, turned %d of 3, want %d, of %v", legal.Count(p, 4), legal.Count(board.Turn(p), 3), most, p)
		}
	}
}

// TestNewMemory writes into what was answered, and behind its end: nothing that is answered then, or was, is other.
func TestNewMemory(t *testing.T) { // R3, R4
	for _, p := range sample.Right() {
		first, second := legal.Moves(p), legal.Moves(p)
		want := slices.Clone(first)
		for i := range first[:cap(first)] {
			first[:cap(first)][i] = api.Move{From: -7, To: -7, Becomes: -7}
		}
		if third := legal.Moves(p); !slices.Equal(second, want) || !slices.Equal(third, want) {
			t.Errorf("those of %v share memory", p)
		}
		for _, m := range want {
			one, _ := legal.Play(p, m)
			kept := one
			one.Squares = [64]api.Piece{}
			if two, errno := legal.Play(p, m); errno != api.OK || two != kept || !legal.Is(p, m) {
				t.Errorf("%v: %d, %v, then %v", m, errno, kept, two)
			}
		}
	}
}

func TestArgumentsStay(t *testing.T) { // R3
	row := append(make([]api.Move, 0, 8), sample.Moves("e2e4 e7e5 g1f3")...)
	whole := row[:8]
	before := slices.Clone(whole)
	p := sample.Begin()
	got, errno := legal.Play(p, row...)
	want := got
	legal.Play(p, append(row[:2:2], api.Move{From: -1})...)
	legal.Play(api.Position{}, row...)
	for deep := range 4 {
		legal.Count(p, deep)
	}
	legal.Moves(p)
	legal.Is(p, row[0])
	if errno != api.OK || p != sample.Begin() || !slices.Equal(whole, before) {
		t.Error("what was given was changed")
	}
	row[0], row[1], row[2] = sample.Move("a2a3"), sample.Move("a7a6"), sample.Move("b2b3")
	if got != want {
		t.Error("the row is kept")
	}
}
