package moves_test

import (
	"math/rand"
	"slices"
	"testing"

	"zugzwang/api"
	"zugzwang/attack"
	"zugzwang/board"
	"zugzwang/moves"
	"zugzwang/play"
	"zugzwang/sample"
)

func stands(p api.Position, s int) bool { return p.Squares[s] != api.Piece{} }

// isClear says whether nothing stands between two squares on one way.
func isClear(p api.Position, from, to int) bool {
	files, ranks := to%8-from%8, to/8-from/8
	far := max(files, -files, ranks, -ranks)
	for n := 1; n < far; n++ {
		if stands(p, from+n*(files+8*ranks)/far) {
			return false
		}
	}
	return true
}

// modelPawn says by how far the squares lie apart whether a pawn goes from one to the other.
func modelPawn(p api.Position, from, to int) bool {
	side := int(p.Side)
	files, ranks := to%8-from%8, (to/8-from/8)*(1-2*side)
	switch {
	case files == 0 && ranks == 2:
		return from/8 == 1+5*side && !stands(p, to) && !stands(p, (from+to)/2)
	case files == 0:
		return ranks == 1 && !stands(p, to)
	}
	return files*files == 1 && ranks == 1 && (stands(p, to) && int(p.Squares[to].Side) == 1-side || !stands(p, to) && to == p.Over)
}

func modelCastles(p api.Position, from, to int) bool {
	side := int(p.Side)
	corner, castle := from+3, api.Castle(1+3*side)
	if to < from {
		corner, castle = from-4, 2*castle
	}
	return from == 4+56*side && (to == from+2 || to == from-2) && p.Castle&^15 == 0 && p.Castle&castle != 0 &&
		p.Squares[corner] == api.Piece{Kind: api.Rook, Side: p.Side} && isClear(p, from, corner)
}

// modelGoes says by the chapter's words, written once more, whether a piece of the side that moves goes from a square to another one.
func modelGoes(p api.Position, from, to int) bool {
	if from == to || stands(p, to) && p.Squares[to].Side == p.Side {
		return false
	}
	files, ranks := to%8-from%8, to/8-from/8
	straight, slanting := files*ranks == 0, files*files == ranks*ranks
	switch p.Squares[from].Kind {
	case api.Pawn:
		return modelPawn(p, from, to)
	case api.Knight:
		return files*files+ranks*ranks == 5
	case api.Bishop:
		return slanting && isClear(p, from, to)
	case api.Rook:
		return straight && isClear(p, from, to)
	case api.Queen:
		return (straight || slanting) && isClear(p, from, to)
	}
	return files*files+ranks*ranks <= 2 || modelCastles(p, from, to)
}

func modelFrom(p api.Position, from int) []api.Move {
	var l []api.Move
	if x := p.Squares[from]; !slices.Contains(sample.Pieces(), x) || x.Side != p.Side {
		return nil
	}
	for to := range 64 {
		if !modelGoes(p, from, to) {
			continue
		}
		if end := 7 * (1 - int(p.Side)); p.Squares[from].Kind != api.Pawn || to/8 != end {
			l = append(l, api.Move{From: from, To: to})
			continue
		}
		for _, becomes := range []api.Kind{api.Knight, api.Bishop, api.Rook, api.Queen} {
			l = append(l, api.Move{From: from, To: to, Becomes: becomes})
		}
	}
	return l
}

// laws asks what holds of the moves of each position: those of all squares come in order, each once, can be made, and lead to no piece of the own side.
func laws(t *testing.T, p api.Position) {
	t.Helper()
	var l []api.Move
	for s := range 64 {
		l = append(l, moves.From(p, s)...)
	}
	if got := moves.All(p); !slices.Equal(got, l) {
		t.Errorf("all are %v, of the squares %v", got, l)
	}
	for i, m := range l {
		if i > 0 && (!moves.Less(l[i-1], m) || moves.Less(m, l[i-1]) || l[i-1] == m) {
			t.Errorf("%v is not behind %v", m, l[i-1])
		}
		if _, errno := play.Move(p, m); errno != api.OK {
			t.Errorf("%v can not be made: %d", m, errno)
		}
		if stands(p, m.To) && p.Squares[m.To].Side == p.Side {
			t.Errorf("%v leads to its own side's", m)
		}
	}
	if t.Failed() {
		t.Fatalf("of %v", p)
	}
}

func TestByModel(t *testing.T) { // P9.1, P9.2
	r := rand.New(rand.NewSource(91))
	var slants, castles, becomes, tried int
	for range 8000 {
		p := sample.Scattered(r.Intn)
		if r.Intn(4) == 0 {
			p = sample.Set(p, "a1R h1R a8r h8r")
		}
		for s := range 64 {
			want := modelFrom(p, s)
			from(t, "by the model", p, s, want)
			for _, m := range want {
				tried++
				if p.Squares[s].Kind == api.Pawn && m.To == p.Over && s%8 != m.To%8 {
					slants++
				}
				if p.Squares[s].Kind == api.King && (m.To-s == 2 || m.To-s == -2) {
					castles++
				}
				if m.Becomes != api.NoKind {
					becomes++
				}
			}
		}
		laws(t, p)
	}
	if slants < 100 || castles < 100 || becomes < 5000 || tried < 300000 {
		t.Errorf("%d take over, %d castle, %d become something, of %d: that tries little", slants, castles, becomes, tried)
	}
}

// TestAloneByModel has each piece alone on each square, with each Castle that has some.
func TestAloneByModel(t *testing.T) { // P9.1
	for _, x := range sample.Pieces() {
		for s := range 64 {
			for castle := range api.Castle(16) {
				p := alone(x, s)
				p.Castle = castle
				from(t, "alone", p, s, modelFrom(p, s))
			}
		}
	}
}

// rightOnes are right positions, most of which came about by moves.
func rightOnes() []api.Position {
	r := rand.New(rand.NewSource(92))
	l := append(sample.Right(), sample.Black(sample.Begin()), sample.Black(sample.Midst()), sample.Black(sample.Late()))
	for range 400 {
		p := l[r.Intn(8)]
		for range r.Intn(12) {
			all := moves.All(p)
			if q, errno := play.Move(p, all[r.Intn(len(all))]); errno == api.OK && board.Right(q) {
				p = q
			}
		}
		l = append(l, p)
	}
	return l
}

func TestOfRightOnes(t *testing.T) { // P9.2
	for _, p := range rightOnes() {
		if !board.Right(p) {
			t.Fatalf("%v is not right", p)
		}
		laws(t, p)
		want := moves.All(p)
		for i := range want {
			want[i] = sample.Turned(want[i])
		}
		slices.SortFunc(want, func(a, b api.Move) int {
			return slices.Compare([]int{a.From, a.To, int(a.Becomes)}, []int{b.From, b.To, int(b.Becomes)})
		})
		turned := board.Turn(p)
		if got := moves.All(turned); !slices.Equal(got, want) {
			t.Errorf("of %v turned: %v, want %v", p, got, want)
		}
		for s := range 64 {
			from(t, "turned", turned, s, slices.DeleteFunc(slices.Clone(want), func(m api.Move) bool { return m.From != s }))
		}
	}
}

// countLegal counts the rows of moves behind none of which the side that made it is in check, as games of chess have them: their numbers are known.
func countLegal(p api.Position, deep int) int {
	if deep == 0 {
		return 1
	}
	n := 0
	for _, m := range moves.All(p) {
		q, _ := play.Move(p, m)
		castles := p.Squares[m.From].Kind == api.King && (m.To == m.From+2 || m.To == m.From-2)
		through := castles && (attack.Check(p, p.Side) || attack.Is(p, q.Side, (m.From+m.To)/2))
		if !through && !attack.Check(q, p.Side) {
			n += countLegal(q, deep-1)
		}
	}
	return n
}

func TestKnownCounts(t *testing.T) { // P9.1
	for _, c := range sample.Known() {
		for i, want := range c.Rows {
			if got := countLegal(c.Position, i+1); got != want {
				t.Errorf("%v: %d rows of %d, want %d", c.Position, got, i+1, want)
			}
		}
	}
}

// TestNewMemory writes into what was answered, and behind its end: nothing that is answered then, or was, is other.
func TestNewMemory(t *testing.T) { // R3
	for _, p := range sample.Right() {
		first, second := moves.All(p), moves.All(p)
		want := slices.Clone(first)
		scribble(first)
		if third := moves.All(p); !slices.Equal(second, want) || !slices.Equal(third, want) {
			t.Errorf("all of %v share memory", p)
		}
		for s := range 64 {
			one, two := moves.From(p, s), moves.From(p, s)
			want := slices.Clone(one)
			scribble(one)
			if three := moves.From(p, s); !slices.Equal(two, want) || !slices.Equal(three, want) {
				t.Errorf("those from %d of %v share memory", s, p)
			}
		}
		if !slices.Equal(second, want) {
			t.Errorf("all of %v share memory with those of squares", p)
		}
	}
}

func scribble(l []api.Move) {
	for i := range l[:cap(l)] {
		l[:cap(l)][i] = api.Move{From: -7, To: -7, Becomes: -7}
	}
}

func TestArgumentsStay(t *testing.T) { // R3
	for _, p := range append(sample.Right(), sample.Black(sample.Midst()), api.Position{Side: 5, Castle: -1, Over: 99}) {
		before := p
		moves.All(p)
		for s := range 64 {
			moves.From(p, s)
		}
		if p != before {
			t.Errorf("%v became %v", before, p)
		}
	}
	a, b := sample.Move("e2e4"), sample.Move("e7e8Q")
	moves.Less(a, b)
	if a != sample.Move("e2e4") || b != sample.Move("e7e8Q") {
		t.Error(a, b)
	}
}
