package square_test

import (
	"math"
	"slices"
	"strings"
	"testing"

	"zugzwang/api"
	"zugzwang/square"
)

// board has the names of all squares, a row a rank, written out by hand, so that the tests ask nothing of the package itself.
const board = "a1 b1 c1 d1 e1 f1 g1 h1 " +
	"a2 b2 c2 d2 e2 f2 g2 h2 " +
	"a3 b3 c3 d3 e3 f3 g3 h3 " +
	"a4 b4 c4 d4 e4 f4 g4 h4 " +
	"a5 b5 c5 d5 e5 f5 g5 h5 " +
	"a6 b6 c6 d6 e6 f6 g6 h6 " +
	"a7 b7 c7 d7 e7 f7 g7 h7 " +
	"a8 b8 c8 d8 e8 f8 g8 h8"

// shades has a rank a row, from 1 on: d is dark.
const shades = "d.d.d.d." + ".d.d.d.d" + "d.d.d.d." + ".d.d.d.d" +
	"d.d.d.d." + ".d.d.d.d" + "d.d.d.d." + ".d.d.d.d"

func names() []string { return strings.Fields(board) }

// sq is the square of a name.
func sq(name string) int { return slices.Index(names(), name) }

func squares(list string) []int {
	var all []int
	for _, name := range strings.Fields(list) {
		all = append(all, sq(name))
	}
	return all
}

// noSquares are numbers below and above the board's.
func noSquares() []int {
	return []int{-1, -2, -7, -8, -9, -63, -64, -65, 64, 65, 71, 72, 127, 128, 1000, -1000,
		256, 1 << 32, 1<<32 + 28, -1 << 32, 1<<63 - 64, -1<<63 + 64, math.MaxInt - 1, math.MaxInt, math.MinInt, math.MinInt + 1}
}

// off are numbers that are no file and no rank; some of them, taken eight times, run over onto the board.
func off() []int {
	return []int{-1, -2, -7, -8, -9, -64, 8, 9, 15, 16, 63, 64, 255, 256, 1 << 32, -1 << 32, 1 << 61, 1<<61 + 3, -1 << 61, 1 << 62, -1 << 62,
		math.MaxInt - 7, math.MaxInt - 1, math.MaxInt, math.MinInt, math.MinInt + 1, math.MinInt + 7, math.MinInt + 8}
}

// far are steps that lead off the board from everywhere.
func far() []int {
	return []int{-8, 8, -9, 9, -64, 64, 256, -256, 1 << 32, -1 << 32, 1 << 61, -1 << 61, 1 << 62, -1 << 62,
		math.MaxInt - 7, math.MaxInt - 6, math.MaxInt - 1, math.MaxInt, math.MinInt, math.MinInt + 1, math.MinInt + 6, math.MinInt + 7}
}

// steps are those that may stay on the board, in one direction, and all those one beyond.
func steps() []int {
	var all []int
	for n := -8; n <= 8; n++ {
		all = append(all, n)
	}
	return all
}

// grid has the board with a broad margin of NoSquare, by rank and file.
type grid [32][32]int

const margin = 12

func newGrid() *grid {
	var g grid
	for rank := range g {
		for file := range g[rank] {
			g[rank][file] = api.NoSquare
		}
	}
	for s := range 64 {
		g[margin+s/8][margin+s%8] = s
	}
	return &g
}

func (g *grid) step(s, files, ranks int) int {
	return g[margin+s/8+ranks][margin+s%8+files]
}

func (g *grid) ray(s, files, ranks int) []int {
	var way []int
	for files != 0 || ranks != 0 {
		s = g.step(s, files, ranks)
		if s == api.NoSquare {
			break
		}
		way = append(way, s)
	}
	return way
}

func TestIs(t *testing.T) { // P5.1
	for s := -300; s < 300; s++ {
		if got := square.Is(s); got != (s >= 0 && s <= 63) {
			t.Errorf("Is(%d) = %v", s, got)
		}
	}
	for _, s := range noSquares() {
		if square.Is(s) {
			t.Errorf("Is(%d)", s)
		}
	}
}

func TestAllSquares(t *testing.T) { // P5.1
	for s, name := range names() {
		file, rank := strings.IndexByte("abcdefgh", name[0]), strings.IndexByte("12345678", name[1])
		if got := square.File(s); got != file {
			t.Errorf("File(%s) = %d", name, got)
		}
		if got := square.Rank(s); got != rank {
			t.Errorf("Rank(%s) = %d", name, got)
		}
		if got := square.At(file, rank); got != s {
			t.Errorf("At(%d, %d) = %d, want %s", file, rank, got, name)
		}
		if got := square.Dark(s); got != (shades[s] == 'd') {
			t.Errorf("Dark(%s) = %v", name, got)
		}
		if got := square.Name(s); got != name {
			t.Errorf("Name(%d) = %q, want %s", s, got, name)
		}
		if got, is := square.Named(name); got != s || !is {
			t.Errorf("Named(%s) = %d, %v", name, got, is)
		}
	}
}

func TestExample(t *testing.T) { // P5.1, P5.2
	if got, is := square.Named("e4"); got != 28 || !is {
		t.Errorf("e4 is %d, %v", got, is)
	}
	if got := square.Step(28, 3, 1); got != 39 || square.Name(got) != "h5" {
		t.Errorf("three files and one rank on from e4: %d", got)
	}
	if got := square.Ray(sq("c1"), 1, 1); !slices.Equal(got, squares("d2 e3 f4 g5 h6")) {
		t.Errorf("the ray of c1 by 1, 1: %v", got)
	}
}

func TestShades(t *testing.T) { // P5.1
	dark := 0
	for s := range 64 {
		if square.Dark(s) {
			dark++
		}
	}
	if dark != 32 || !square.Dark(sq("a1")) || square.Dark(sq("h1")) || square.Dark(sq("a8")) || !square.Dark(sq("h8")) {
		t.Errorf("%d dark squares", dark)
	}
}

func TestOfNone(t *testing.T) { // P5.1
	for _, s := range noSquares() {
		if got := square.File(s); got != -1 {
			t.Errorf("File(%d) = %d", s, got)
		}
		if got := square.Rank(s); got != -1 {
			t.Errorf("Rank(%d) = %d", s, got)
		}
		if square.Dark(s) {
			t.Errorf("%d is dark", s)
		}
		if got := square.Name(s); got != "" {
			t.Errorf("Name(%d) = %q", s, got)
		}
	}
}

func TestAtNone(t *testing.T) { // P5.1
	none := func(file, rank int) {
		t.Helper()
		if got := square.At(file, rank); got != api.NoSquare {
			t.Errorf("At(%d, %d) = %d", file, rank, got)
		}
	}
	for _, n := range off() {
		for good := range 8 {
			none(n, good)
			none(good, n)
		}
		for _, other := range off() {
			none(n, other)
		}
	}
}

func TestNamedAllOfTwoBytes(t *testing.T) { // P5.1
	all := names()
	for a := range 256 {
		for b := range 256 {
			name := string([]byte{byte(a), byte(b)})
			want := slices.Index(all, name)
			got, is := square.Named(name)
			if want >= 0 && (got != want || !is) || want < 0 && (got != 0 || is) {
				t.Fatalf("Named(%q) = %d, %v", name, got, is)
			}
		}
	}
}

func TestNamedOfNone(t *testing.T) { // P5.1
	wrong := []string{"", "i1", "`1", "a0", "a9", "h0", "h9", "A1", "H8", "E4", "1a", "4e", "aa", "11", "e4e5", "e2e4",
		"a10", "a-1", "-1", "28", "é1", "a１", "ａ1", "\xe1", "a\xb1", "e4\x00", strings.Repeat("a1", 1000)}
	for _, name := range names() {
		wrong = append(wrong, name[:1], name[1:], strings.ToUpper(name), name[1:]+name[:1])
		for _, more := range []string{" ", "\n", "\x00", "a", "1", "q", name} {
			wrong = append(wrong, name+more, more+name)
		}
	}
	for _, name := range wrong {
		if got, is := square.Named(name); got != 0 || is {
			t.Errorf("Named(%q) = %d, %v", name, got, is)
		}
	}
}

func TestStepExamples(t *testing.T) { // P5.2
	for _, c := range []struct {
		from         string
		files, ranks int
		to           string
	}{
		{"e4", 3, 1, "h5"}, {"e4", 0, 0, "e4"}, {"e4", -4, -3, "a1"}, {"e4", 3, 4, "h8"}, {"e4", -4, 4, "a8"}, {"e4", 3, -3, "h1"},
		{"a1", 7, 7, "h8"}, {"h8", -7, -7, "a1"}, {"a8", 7, -7, "h1"}, {"h1", -7, 7, "a8"}, {"g1", -1, 2, "f3"}, {"e7", 0, -2, "e5"},
		{"e4", 4, 0, ""}, {"e4", -5, 0, ""}, {"e4", 0, 5, ""}, {"e4", 0, -4, ""},
		{"h1", 1, 0, ""}, {"a2", -1, 0, ""}, {"e8", 0, 1, ""}, {"e1", 0, -1, ""},
		{"h4", 1, 1, ""}, {"h4", 1, -1, ""}, {"a4", -1, 1, ""}, {"a4", -1, -1, ""}, {"a1", 8, -1, ""}, {"h1", -8, 1, ""}, {"a1", 0, 8, ""},
	} {
		if got, want := square.Step(sq(c.from), c.files, c.ranks), sq(c.to); got != want {
			t.Errorf("Step(%s, %d, %d) = %d, want %d", c.from, c.files, c.ranks, got, want)
		}
	}
}

func TestStepFromEverySquare(t *testing.T) { // P5.2
	g := newGrid()
	for s := range 64 {
		for _, files := range steps() {
			for _, ranks := range steps() {
				if got, want := square.Step(s, files, ranks), g.step(s, files, ranks); got != want {
					t.Fatalf("Step(%d, %d, %d) = %d, want %d", s, files, ranks, got, want)
				}
			}
		}
	}
}

// leadsNowhere asks a step of all three calls that take one.
func leadsNowhere(t *testing.T, s, files, ranks int) {
	t.Helper()
	if got := square.Step(s, files, ranks); got != api.NoSquare {
		t.Fatalf("Step(%d, %d, %d) = %d", s, files, ranks, got)
	}
	if got := square.Ray(s, files, ranks); len(got) != 0 {
		t.Fatalf("Ray(%d, %d, %d) = %v", s, files, ranks, got)
	}
	if got := square.Ring(s, [2]int{files, ranks}); len(got) != 0 {
		t.Fatalf("Ring(%d, {%d, %d}) = %v", s, files, ranks, got)
	}
}

func TestFarSteps(t *testing.T) { // P5.2
	for s := range 64 {
		for _, n := range far() {
			for _, other := range steps() {
				leadsNowhere(t, s, n, other)
				leadsNowhere(t, s, other, n)
			}
			for _, other := range far() {
				leadsNowhere(t, s, n, other)
			}
		}
	}
}

func TestFromNone(t *testing.T) { // P5.2
	// From a file of -1 and a rank of -1 these would lead onto the board.
	for _, s := range noSquares() {
		for _, files := range steps() {
			for _, ranks := range steps() {
				leadsNowhere(t, s, files, ranks)
			}
		}
		for _, n := range far() {
			leadsNowhere(t, s, n, n)
			leadsNowhere(t, s, 1, n)
			leadsNowhere(t, s, n, 1)
		}
		if got := square.Ring(s, [2]int{0, 0}, [2]int{1, 1}, [2]int{0, -1}, [2]int{-1, 0}); len(got) != 0 {
			t.Errorf("Ring(%d, ..) = %v", s, got)
		}
	}
}

func TestRayExamples(t *testing.T) { // P5.2
	for _, c := range []struct {
		from         string
		files, ranks int
		way          string
	}{
		{"c1", 1, 1, "d2 e3 f4 g5 h6"},
		{"a1", 1, 0, "b1 c1 d1 e1 f1 g1 h1"},
		{"h8", -1, 0, "g8 f8 e8 d8 c8 b8 a8"},
		{"e4", 0, 1, "e5 e6 e7 e8"},
		{"e4", 0, -1, "e3 e2 e1"},
		{"e4", -1, 1, "d5 c6 b7 a8"},
		{"e4", 1, -1, "f3 g2 h1"},
		{"e4", -1, -1, "d3 c2 b1"},
		{"a1", 1, 1, "b2 c3 d4 e5 f6 g7 h8"},
		{"a1", 0, 3, "a4 a7"},
		{"b1", 2, 1, "d2 f3 h4"},
		{"h1", -3, 2, "e3 b5"},
		{"a1", 7, 7, "h8"},
		{"h4", 1, 0, ""}, {"h4", 1, 1, ""}, {"h4", 1, -1, ""},
		{"a4", -1, 0, ""}, {"a4", -1, 1, ""}, {"a4", -1, -1, ""},
		{"e8", 0, 1, ""}, {"e1", 0, -1, ""},
		{"e4", 0, 0, ""}, {"a1", 0, 0, ""}, {"h8", 0, 0, ""},
	} {
		if got := square.Ray(sq(c.from), c.files, c.ranks); !slices.Equal(got, squares(c.way)) {
			t.Errorf("Ray(%s, %d, %d) = %v, want %s", c.from, c.files, c.ranks, got, c.way)
		}
	}
}

func TestRayFromEverySquare(t *testing.T) { // P5.2
	g := newGrid()
	for s := range 64 {
		for _, files := range steps() {
			for _, ranks := range steps() {
				if got, want := square.Ray(s, files, ranks), g.ray(s, files, ranks); !slices.Equal(got, want) {
					t.Fatalf("Ray(%d, %d, %d) = %v, want %v", s, files, ranks, got, want)
				}
			}
		}
	}
}

func TestRingExamples(t *testing.T) { // P5.2
	for _, c := range []struct {
		from  string
		steps [][2]int
		ring  string
	}{
		{"e4", nil, ""},
		{"e4", [][2]int{}, ""},
		{"e4", [][2]int{{0, 0}}, "e4"},
		{"a1", [][2]int{{1, 2}, {-1, 2}, {2, 1}, {0, 0}}, "b3 c2 a1"},
		{"a1", [][2]int{{0, 0}, {2, 1}, {-1, 2}, {1, 2}}, "a1 c2 b3"},
		{"e4", [][2]int{{1, 1}, {-4, -3}, {3, 4}, {0, 1}}, "f5 a1 h8 e5"},
		{"e4", [][2]int{{1, 0}, {1, 0}}, "f4 f4"},
		{"e4", [][2]int{{0, 1}, {1, 0}, {0, 1}, {0, 5}, {1, 0}}, "e5 f4 e5 f4"},
		{"h1", [][2]int{{1, 0}, {0, -1}, {1, 1}, {8, 0}, {-8, 1}, {0, 8}}, ""},
		{"h1", [][2]int{{1, 0}, {1, 0}, {-1, 0}, {1, 1}}, "g1"},
		{"a8", [][2]int{{-1, 0}, {0, 1}, {0, -1}, {math.MaxInt, math.MinInt}, {1, 0}}, "a7 b8"},
	} {
		if got := square.Ring(sq(c.from), c.steps...); !slices.Equal(got, squares(c.ring)) {
			t.Errorf("Ring(%s, %v) = %v, want %s", c.from, c.steps, got, c.ring)
		}
	}
	if got := square.Ring(sq("e4")); len(got) != 0 {
		t.Errorf("Ring(e4) = %v", got)
	}
}

// allSteps are pairs, neither rising nor falling by the squares to which they lead, and each of them twice.
func allSteps() [][2]int {
	var all [][2]int
	for i := range 2 * 17 * 17 {
		n := i * 100 % (17 * 17)
		all = append(all, [2]int{n%17 - 8, n/17 - 8})
	}
	return all
}

func TestRingFromEverySquare(t *testing.T) { // P5.2
	g := newGrid()
	for s := range 64 {
		var want []int
		for _, by := range allSteps() {
			if to := g.step(s, by[0], by[1]); to != api.NoSquare {
				want = append(want, to)
			}
		}
		if got := square.Ring(s, allSteps()...); !slices.Equal(got, want) || len(got) != 128 {
			t.Errorf("Ring(%d, ..) = %v, want %v", s, got, want)
		}
	}
}

func TestNamesAndSquares(t *testing.T) { // P5.3
	seen := map[string]int{}
	for s := range 64 {
		name := square.Name(s)
		if other, twice := seen[name]; twice || len(name) != 2 {
			t.Errorf("%q is the name of %d and %d", name, other, s)
		}
		seen[name] = s
		if got, is := square.Named(name); got != s || !is {
			t.Errorf("Named(Name(%d)) = %d, %v", s, got, is)
		}
		if got := square.At(square.File(s), square.Rank(s)); got != s {
			t.Errorf("At of file and rank of %d: %d", s, got)
		}
	}
	if len(seen) != 64 {
		t.Errorf("%d names", len(seen))
	}
}

func TestStepAndBack(t *testing.T) { // P5.3
	there := 0
	for s := range 64 {
		for _, files := range steps() {
			for _, ranks := range steps() {
				to := square.Step(s, files, ranks)
				if to == api.NoSquare {
					continue
				}
				there++
				if got := square.Step(to, -files, -ranks); got != s {
					t.Fatalf("%d, a step of %d and %d, and back: %d", s, files, ranks, got)
				}
			}
		}
	}
	if there != 64*64 {
		t.Errorf("%d steps from a square to a square", there)
	}
}

func TestRaysAreShort(t *testing.T) { // P5.3
	longest := 0
	for s := range 64 {
		for _, files := range steps() {
			for _, ranks := range steps() {
				way := square.Ray(s, files, ranks)
				longest = max(longest, len(way))
				slices.Sort(way)
				if len(slices.Compact(slices.Clone(way))) != len(way) || slices.Contains(way, s) {
					t.Fatalf("Ray(%d, %d, %d) has a square twice, or its own: %v", s, files, ranks, way)
				}
			}
		}
	}
	if longest != 7 {
		t.Errorf("the longest ray has %d squares", longest)
	}
}

func TestArgumentsStay(t *testing.T) { // R3
	given := append(allSteps(), [2]int{math.MaxInt, math.MinInt})
	room := len(given)
	given = append(given, [2]int{1, 2})[:room]
	before := slices.Clone(given[:room+1])
	got := square.Ring(28, given...)
	want := slices.Clone(got)
	if !slices.Equal(given[:room+1], before) {
		t.Fatal("Ring changed its steps, or what stands behind them")
	}
	clear(given)
	if !slices.Equal(got, want) {
		t.Error("Ring keeps its steps")
	}
}

func TestAnswersAreNew(t *testing.T) { // R3, R4
	knight := [][2]int{{1, 2}, {2, 1}, {2, -1}, {1, -2}, {-1, -2}, {-2, -1}, {-2, 1}, {-1, 2}}
	for s := range 64 {
		for _, ask := range []func() []int{
			func() []int { return square.Ray(s, 1, 1) },
			func() []int { return square.Ray(s, -1, 0) },
			func() []int { return square.Ring(s, knight...) },
		} {
			first, second := ask(), ask()
			want := slices.Clone(first)
			for i := range first {
				first[i] = 99
			}
			_ = append(first, 99)
			if !slices.Equal(second, want) || !slices.Equal(ask(), want) {
				t.Fatalf("two answers of %d share memory, or are unlike: %v, want %v", s, second, want)
			}
		}
	}
}
