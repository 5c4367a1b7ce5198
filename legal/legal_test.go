package legal_test

import (
	"math"
	"slices"
	"strings"
	"testing"

	"zugzwang/api"
	"zugzwang/board"
	"zugzwang/legal"
	"zugzwang/sample"
)

// onlyFrom are those of moves that go from a square.
func onlyFrom(l []api.Move, s int) []api.Move {
	return slices.DeleteFunc(slices.Clone(l), func(m api.Move) bool { return m.From != s })
}

// sorted are moves in order: by From, then To, then Becomes.
func sorted(l []api.Move) []api.Move {
	return slices.SortedFunc(slices.Values(l), func(a, b api.Move) int {
		return slices.Compare([]int{a.From, a.To, int(a.Becomes)}, []int{b.From, b.To, int(b.Becomes)})
	})
}

// turned are moves of the position turned, in order.
func turned(l []api.Move) []api.Move {
	var all []api.Move
	for _, m := range l {
		all = append(all, sample.Turned(m))
	}
	return sorted(all)
}

// from asks the legal moves from a square.
func from(t *testing.T, what string, p api.Position, s int, want []api.Move) {
	t.Helper()
	if !legal.Position(p) {
		t.Fatalf("%s: %v may not be played on", what, p)
	}
	if got := onlyFrom(legal.Moves(p), s); !slices.Equal(got, want) {
		t.Errorf("%s: from %d: %v, want %v", what, s, got, want)
	}
	for to := range 64 {
		for becomes := api.NoKind; becomes <= api.King; becomes++ {
			m := api.Move{From: s, To: to, Becomes: becomes}
			if legal.Is(p, m) != slices.Contains(want, m) {
				t.Errorf("%s: %v is legal or not: %v", what, m, legal.Is(p, m))
			}
		}
	}
}

// goes asks the legal moves from a square by its name, and those of the position turned.
func goes(t *testing.T, what string, p api.Position, at, names string) {
	t.Helper()
	want := sorted(sample.To(at, names))
	from(t, what, p, sample.Square(at), want)
	from(t, what+", turned", board.Turn(p), sample.Square(at)^56, turned(want))
}

// all asks all legal moves, and how many there are.
func all(t *testing.T, what string, p api.Position, want []api.Move) {
	t.Helper()
	if got := legal.Moves(p); !legal.Position(p) || !slices.Equal(got, want) {
		t.Errorf("%s: all are %v, want %v", what, got, want)
	}
	for deep, n := range []int{1, len(want)} {
		if got := legal.Count(p, deep); got != n {
			t.Errorf("%s: %d rows of %d, want %d", what, got, deep, n)
		}
	}
}

// allGo asks all legal moves, given by squares with what their pieces go to: b1: a3 c3, and so on; and those of the position turned.
func allGo(t *testing.T, what string, p api.Position, squares ...string) {
	t.Helper()
	var want []api.Move
	for _, text := range squares {
		at, names, _ := strings.Cut(text, ":")
		goes(t, what, p, at, names)
		want = append(want, sample.To(at, names)...)
	}
	all(t, what, p, sorted(want))
	all(t, what+", turned", board.Turn(p), turned(want))
}

var (
	drawn  = sample.Drawn
	over   = sample.Over
	castle = sample.Castle
)

func TestBegin(t *testing.T) { // P10.1
	allGo(t, "the begin", board.Start(),
		"b1: a3 c3", "g1: f3 h3", "a2: a3 a4", "b2: b3 b4", "c2: c3 c4", "d2: d3 d4", "e2: e3 e4", "f2: f3 f4", "g2: g3 g4", "h2: h3 h4")
	allGo(t, "the begin, of black", sample.Black(board.Start()),
		"a7: a5 a6", "b7: b5 b6", "c7: c5 c6", "d7: d5 d6", "e7: e5 e6", "f7: f5 f6", "g7: g5 g6", "h7: h5 h6", "b8: a6 c6", "g8: f6 h6")
	for _, at := range []string{"a1", "c1", "d1", "e1", "f1", "h1", "e3", "e4", "e7", "b8", "e8"} {
		goes(t, "the begin", board.Start(), at, "")
	}
}

func TestMidst(t *testing.T) { // P10.1
	allGo(t, "in the midst", sample.Midst(),
		"a1: b1 c1 d1", "e1: c1 d1 f1 g1 e2", "h1: f1 g1",
		"a2: a3 a4", "b2: b3 b4", "c2:", "d2: c1 d1 e2", "f2:", "g2: g3 g4", "h2: h3 h4",
		"c3: b1 d1 e2 a4 b5 d5", "d3: d4", "e3: d4 f4 c5 g5 h6", "f3: g1 d4 h4 e5 g5", "c4: b3 b5 d5 a6 e6", "e4:")
	allGo(t, "in the midst, of black", sample.Black(sample.Midst()),
		"c5: a3 e3 b4 d4 b6", "e5:", "c6: b4 d4 a5 e7 b8 d8", "d6: d5", "e6: h3 c4 g4 d5 f5", "f6: e4 g4 d5 h5 g8",
		"a7: a5 a6", "b7: b5 b6", "c7:", "d7: e7 c8 d8", "f7:", "g7: g5 g6", "h7: h5 h6",
		"a8: b8 c8 d8", "e8: e7 c8 d8 f8 g8", "h8: f8 g8")
	allGo(t, "black leapt", sample.BlackLeapt(),
		"e1: d1 f1 d2 e2", "a2: a3 a4", "b2: b3 b4", "f2: f3 f4", "g2: g3 g4", "h2: h3 h4", "c5: c6 d6", "e5: d6 e6")
	allGo(t, "white leapt", sample.WhiteLeapt(),
		"d4: d3 e3", "f4: e3 f3", "a7: a5 a6", "b7: b5 b6", "f7: f5 f6", "g7: g5 g6", "h7: h5 h6", "e8: d7 e7 d8 f8")
	allGo(t, "late", sample.Late(),
		"a1: b1 a2 b2", "d1: b1 c1 e1 d2 d3 d4 d5 d6", "f1: d2 h2 e3 g3", "d7: c8= d8= e8=")
	allGo(t, "late, of black", sample.Black(sample.Late()),
		"e2: d1= e1= f1=", "c8: b6 d6 a7 e7", "e8: e3 e4 e5 e6 e7 d8 f8 g8", "h8: g7 h7 g8")
}

func TestPosition(t *testing.T) { // P10.1
	for _, p := range sample.Right() {
		if !legal.Position(p) || !legal.Position(board.Turn(p)) {
			t.Errorf("%v may be played on", p)
		}
	}
	for _, c := range []struct {
		puts         string
		white, black bool
	}{
		{"e1K e8k", true, true},
		{"e1K e3k", true, true},
		{"e1K e2k", false, false},
		{"e1K d2k", false, false},
		{"e1K f1k", false, false},
		{"a1K h8k", true, true},
		{"e1K e8k d1R", true, true},
		{"e1K e8k d8R", false, true},
		{"e1K e8k d1r", true, false},
		{"e1K e8k d8R d1r", false, false},
		{"e1K e8k h8R f8n", true, true},
		{"e1K e8k h8R g8N", true, true},
		{"e1K e8k d7P", false, true},
		{"e1K e8k e7P", true, true},
		{"e1K e8k d2p", true, false},
		{"e1K e8k f6N", false, true},
		{"e1K e8k c2n", true, false},
		{"e1K e8k b5B", false, true},
		{"e1K e8k b4q", true, false},
	} {
		p := drawn(c.puts)
		if legal.Position(p) != c.white || legal.Position(sample.Black(p)) != c.black {
			t.Errorf("%s: of white %v, of black %v", c.puts, legal.Position(p), legal.Position(sample.Black(p)))
		}
	}
}

func TestCounts(t *testing.T) { // P10.3
	for deep, want := range map[int]int{math.MinInt: 1, -1 << 32: 1, -4: 1, -1: 1, 0: 1, 1: 20, 2: 400, 3: 8902, 4: 8902, 5: 8902, 1<<32 - 1: 8902, 1<<32 + 1: 8902, math.MaxInt: 8902} {
		if got := legal.Count(board.Start(), deep); got != want {
			t.Errorf("%d rows of %d, want %d", got, deep, want)
		}
	}
	for _, c := range sample.Known() {
		for i, want := range c.Rows[:3] {
			for _, p := range []api.Position{c.Position, board.Turn(c.Position)} {
				if got := legal.Count(p, i+1); got != want {
					t.Errorf("%v: %d rows of %d, want %d", p, got, i+1, want)
				}
			}
		}
	}
}

// rows counts deeper than three.
func rows(p api.Position, deep int) int {
	if deep <= 3 {
		return legal.Count(p, deep)
	}
	n := 0
	for _, m := range legal.Moves(p) {
		q, _ := legal.Play(p, m)
		n += rows(q, deep-1)
	}
	return n
}

// TestDeepCounts has known numbers of deep rows: of pawns that come to the end, of checks by two pieces at once, and of stalemates.
func TestDeepCounts(t *testing.T) { // P10.1, P10.2, P10.3, P10.4
	for _, c := range []struct {
		puts       string
		side       api.Side
		deep, want int
	}{
		{"e8k b7P a2K", api.White, 6, 217342},
		{"a7P c7k a6K", api.White, 6, 92683},
		{"a8K c8k a6P", api.White, 6, 2217},
		{"c6k f5q f4n f2K", api.Black, 4, 23527},
	} {
		p := drawn(c.puts)
		p.Side = c.side
		for _, p := range []api.Position{p, board.Turn(p)} {
			if got := rows(p, c.deep); got != c.want {
				t.Errorf("%v: %d rows of %d, want %d", p, got, c.deep, c.want)
			}
		}
	}
	for deep, want := range sample.Known()[2].Rows {
		if got := rows(sample.Known()[2].Position, deep+1); got != want {
			t.Errorf("%d rows of %d, want %d", got, deep+1, want)
		}
	}
}

// TestEnds has mates and stalemates: no move is legal, and the position may be played on.
func TestEnds(t *testing.T) { // P10.1, P10.2, P10.3
	for _, c := range append(sample.Mates(), sample.Stalemates()...) {
		allGo(t, c.What, c.Position)
		for _, deep := range []int{1, 2, 3, 4, math.MaxInt} {
			if got := legal.Count(c.Position, deep); got != 0 {
				t.Errorf("%s: %d rows of %d", c.What, got, deep)
			}
		}
		if got, errno := legal.Play(c.Position); got != c.Position || errno != api.OK {
			t.Errorf("%s: %d, %v", c.What, errno, got)
		}
	}
}
