package dead_test

import (
	"math/rand"
	"testing"

	"zugzwang/api"
	"zugzwang/board"
	"zugzwang/dead"
	"zugzwang/legal"
	"zugzwang/sample"
)

// men are the squares of all that counts.
func men(p api.Position) []int {
	var at []int
	for s, x := range p.Squares {
		if x.Kind != api.NoKind && x.Kind != api.King {
			at = append(at, s)
		}
	}
	return at
}

// modelLeft is the sum of what stands there, piece by piece.
func modelLeft(p api.Position) dead.Left {
	var l dead.Left
	for _, s := range men(p) {
		l = sum(l, alone(p.Squares[s].Kind, s))
	}
	return l
}

// modelIs looks at the pieces themselves: none, one knight, or bishops on one shade.
func modelIs(p api.Position) bool {
	at := men(p)
	if len(at) == 1 && p.Squares[at[0]].Kind == api.Knight {
		return true
	}
	for _, s := range at {
		if p.Squares[s].Kind != api.Bishop || dark(s) != dark(at[0]) {
			return false
		}
	}
	return true
}

// lawsOf asks what holds of each position; it says whether it is dead.
func lawsOf(t *testing.T, p api.Position) bool {
	t.Helper()
	left, is := modelLeft(p), modelIs(p)
	has(t, "by the model", p, left, is)
	if dead.Is(p) != dead.Of(p).Dead() || dead.Is(board.Turn(p)) != dead.Is(p) {
		t.Errorf("Is %v, Dead %v, turned %v, of %v", dead.Is(p), dead.Of(p).Dead(), dead.Is(board.Turn(p)), p)
	}
	return is
}

// oneLess has each piece taken off that is no king: what is left is less by it, and a dead position stays dead.
func oneLess(t *testing.T, p api.Position) {
	t.Helper()
	for _, s := range men(p) {
		less := p
		less.Squares[s] = api.Piece{}
		if got := sum(dead.Of(less), alone(p.Squares[s].Kind, s)); got != dead.Of(p) {
			t.Errorf("without what stands on %d: %+v, of %v", s, dead.Of(less), p)
		}
		if dead.Is(p) && (!dead.Is(less) || !dead.Of(less).Dead()) {
			t.Errorf("dead no more without what stands on %d: %v", s, p)
		}
	}
}

// oneMore has one piece more on each empty square: what is left is more by it, as Add says, if it is no bishop; with a heavy one none is dead.
func oneMore(t *testing.T, p api.Position, x api.Piece) {
	t.Helper()
	left := dead.Of(p)
	for _, s := range board.Find(p, api.Piece{}) {
		more := p
		more.Squares[s] = x
		got, want := dead.Of(more), left.Add(x.Kind)
		if x.Kind == api.Bishop {
			want = sum(left, alone(x.Kind, s))
		}
		if got != want || dead.Is(more) != want.Dead() {
			t.Errorf("with %v on %d: %+v, %v, want %+v, of %v", x, s, got, dead.Is(more), want, p)
		}
		if alone(x.Kind, s).Heavy == 1 && dead.Is(more) {
			t.Errorf("dead with %v on %d: %v", x, s, p)
		}
	}
}

// fewMen is a position with kings or without, and few pieces of which many leave it dead.
func fewMen(d *rand.Rand) api.Position {
	p := sample.Bare()
	for range d.Intn(5) {
		p.Squares[d.Intn(64)] = sample.Piece("NnBbBbBbPrQ?!"[d.Intn(13)])
	}
	shade := d.Intn(2)
	for range d.Intn(3) * d.Intn(4) {
		if s := d.Intn(64); (s+s/8)%2 == shade {
			p.Squares[s] = sample.Piece("Bb"[d.Intn(2)])
		}
	}
	for range d.Intn(4) {
		p.Squares[d.Intn(64)] = sample.Piece("Kk"[d.Intn(2)])
	}
	return p
}

func TestByModel(t *testing.T) { // P13.1, P13.3
	d := rand.New(rand.NewSource(132))
	isDead, isNot := 0, 0
	ask := func(p api.Position) {
		if lawsOf(t, p) {
			isDead++
		} else {
			isNot++
		}
		if t.Failed() {
			t.FailNow()
		}
	}
	for range 20000 {
		ask(fewMen(d))
	}
	for range 5000 {
		ask(sample.AnyRight(d.Intn))
		ask(sample.Scattered(d.Intn))
	}
	if isDead < 3000 || isNot < 12000 {
		t.Errorf("%d are dead, %d are not: that tries little", isDead, isNot)
	}
}

func TestOneLessOneMore(t *testing.T) { // P13.2, P13.3
	d := rand.New(rand.NewSource(133))
	isDead := 0
	for i := range 3000 {
		p := fewMen(d)
		if i%10 == 0 {
			p = sample.Scattered(d.Intn)
		}
		oneLess(t, p)
		for _, x := range sample.Pieces() {
			oneMore(t, p, x)
		}
		wrong := sample.WrongPieces()
		oneMore(t, p, wrong[d.Intn(len(wrong))])
		if dead.Is(p) {
			isDead++
		}
		if t.Failed() {
			t.FailNow()
		}
	}
	if isDead < 500 {
		t.Errorf("%d are dead: that tries little", isDead)
	}
}

// TestDeadStays has positions that are dead, of all sorts, with any piece less, and a heavy one more.
func TestDeadStays(t *testing.T) { // P13.3
	for _, puts := range []string{"", "e1K", "e1K e8k", "e1K e8k b1N", "e1K e8k g8n", "e1K e8k c1B", "e1K e8k c8b", "e1K e8k c1B f8b", "e1K e8k f1B c8b", "a1B b2B c3b d4b e5B f6b g7B h8b", "e1K e8k h1B g2B f3b e4b"} {
		p := sample.Drawn(puts)
		if !dead.Is(p) {
			t.Errorf("not dead: %s", puts)
		}
		oneLess(t, p)
		for _, x := range sample.Pieces() {
			oneMore(t, p, x)
		}
	}
}

// TestTakenOff has positions of many pieces, which are taken off one by one; once dead they stay so.
func TestTakenOff(t *testing.T) { // P13.1, P13.3
	d := rand.New(rand.NewSource(134))
	all := sample.Right()
	for _, c := range sample.Known() {
		all = append(all, c.Position)
	}
	for range 100 {
		all = append(all, sample.AnyRight(d.Intn), sample.Scattered(d.Intn))
	}
	for _, p := range all {
		for range 6 {
			takeOff(t, d, p)
		}
		if t.Failed() {
			return
		}
	}
}

func takeOff(t *testing.T, d *rand.Rand, p api.Position) {
	t.Helper()
	at, was := men(p), false
	d.Shuffle(len(at), func(i, j int) { at[i], at[j] = at[j], at[i] })
	for _, s := range at {
		is := lawsOf(t, p)
		if was && !is {
			t.Errorf("dead no more: %v", p)
		}
		was = is
		p.Squares[s] = api.Piece{}
	}
	has(t, "all taken off", p, dead.Left{}, true)
}

// TestPutIn has pieces put in one by one, in any order: none but a bishop's square matters.
func TestPutIn(t *testing.T) { // P13.1, P13.2, P13.3
	d := rand.New(rand.NewSource(135))
	for range 300 {
		goal := sample.AnyRight(d.Intn)
		if d.Intn(2) == 0 {
			goal = sample.Scattered(d.Intn)
		}
		for range 3 {
			putIn(t, d, goal)
		}
		if t.Failed() {
			return
		}
	}
}

func putIn(t *testing.T, d *rand.Rand, goal api.Position) {
	t.Helper()
	p, left, added := goal, dead.Left{}, dead.Left{}
	p.Squares = [64]api.Piece{}
	for _, s := range d.Perm(64) {
		x := goal.Squares[s]
		p.Squares[s] = x
		added = added.Add(x.Kind)
		if x.Kind == api.Bishop {
			left = sum(left, alone(x.Kind, s))
		} else {
			left = left.Add(x.Kind)
		}
		if got := dead.Of(p); got != left || dead.Is(p) != left.Dead() {
			t.Errorf("%+v, %v, want %+v, of %v", got, dead.Is(p), left, p)
		}
	}
	bishops := left.Dark + left.Light
	if want := (dead.Left{Heavy: left.Heavy, Knights: left.Knights, Dark: (bishops + 1) / 2, Light: bishops / 2}); added != want {
		t.Errorf("added %+v, want %+v", added, want)
	}
}

// TestMovesOfBishops has a dead position played on: it stays dead, as no piece comes, and no bishop leaves its shade.
func TestMovesOfBishops(t *testing.T) { // P13.3
	d := rand.New(rand.NewSource(136))
	for _, puts := range []string{"e1K e8k", "e1K e8k b1N", "e1K e8k c1B", "e1K e8k c1B f8b", "e1K e8k f1B c8b g2b", "e1K e8k a1B h8b b8b"} {
		for range 20 {
			now := sample.Drawn(puts)
			for range 60 {
				if !lawsOf(t, now) {
					t.Fatalf("dead no more: %v", now)
				}
				all := legal.Moves(now)
				if len(all) == 0 {
					break
				}
				now, _ = legal.Play(now, all[d.Intn(len(all))])
			}
		}
	}
}
