package dead_test

import (
	"math"
	"math/rand"
	"slices"
	"strings"
	"testing"

	"zugzwang/api"
	"zugzwang/dead"
	"zugzwang/sample"
)

// row is one of kinds.
func row(all ...api.Kind) []api.Kind { return all }

// kinds are a row by letters: a dot is NoKind, a question mark a kind that is none.
func kinds(letters string) []api.Kind {
	all := []api.Kind{}
	for i := range len(letters) {
		all = append(all, sample.Piece(letters[i]).Kind)
	}
	return all
}

// many is a row of one kind, by its letter.
func many(letter string, times int) []api.Kind {
	return kinds(strings.Repeat(letter, times))
}

// adds asks what is left with a row more; the row and what was left ahead stay as they were.
func adds(t *testing.T, what string, left dead.Left, pieces []api.Kind, want dead.Left) {
	t.Helper()
	wasLeft, wasPieces := left, slices.Clone(pieces)
	for range 2 {
		if got := left.Add(pieces...); got != want {
			t.Errorf("%s: %+v, want %+v, of %+v with %v", what, got, want, wasLeft, wasPieces)
		}
	}
	if left != wasLeft || !slices.Equal(pieces, wasPieces) {
		t.Errorf("%s: %+v became %+v, %v became %v", what, wasLeft, left, wasPieces, pieces)
	}
}

func TestAdd(t *testing.T) { // P13.2
	some := dead.Left{Heavy: 5, Knights: 3, Dark: 2, Light: 2}
	for _, c := range []struct {
		what   string
		left   dead.Left
		pieces []api.Kind
		want   dead.Left
	}{
		{"nothing", dead.Left{}, nil, dead.Left{}},
		{"an empty row", dead.Left{}, kinds(""), dead.Left{}},
		{"nothing, to some", some, nil, some},
		{"a pawn", dead.Left{}, kinds("P"), dead.Left{Heavy: 1}},
		{"a knight", dead.Left{}, kinds("N"), dead.Left{Knights: 1}},
		{"a bishop", dead.Left{}, kinds("B"), dead.Left{Dark: 1}},
		{"a rook", dead.Left{}, kinds("R"), dead.Left{Heavy: 1}},
		{"a queen", dead.Left{}, kinds("Q"), dead.Left{Heavy: 1}},
		{"a king", dead.Left{}, kinds("K"), dead.Left{}},
		{"no kind", dead.Left{}, kinds("."), dead.Left{}},
		{"kings", some, kinds("KKK"), some},
		{"no kinds", some, kinds(".."), some},
		{"kings and no kinds", some, kinds("K.K."), some},
		{"the kind behind the king", dead.Left{}, kinds("?"), dead.Left{Heavy: 1}},
		{"a kind below 0", dead.Left{}, row(-1), dead.Left{Heavy: 1}},
		{"a kind below 0 by as much as a bishop is above", dead.Left{}, row(-3), dead.Left{Heavy: 1}},
		{"kinds that are none", some, row(7, 8, -1, math.MaxInt, math.MinInt), dead.Left{Heavy: 10, Knights: 3, Dark: 2, Light: 2}},
		{"a pawn, to some", some, kinds("P"), dead.Left{Heavy: 6, Knights: 3, Dark: 2, Light: 2}},
		{"a knight, to some", some, kinds("N"), dead.Left{Heavy: 5, Knights: 4, Dark: 2, Light: 2}},
		{"a bishop, to some", some, kinds("B"), dead.Left{Heavy: 5, Knights: 3, Dark: 3, Light: 2}},
		{"one of each", dead.Left{}, kinds(".PNBRQK?"), dead.Left{Heavy: 4, Knights: 1, Dark: 1}},
		{"two of each", dead.Left{}, kinds(".PNBRQK??KQRBNP."), dead.Left{Heavy: 8, Knights: 2, Dark: 1, Light: 1}},
		{"a side's pieces at the begin", dead.Left{}, kinds("RNBQKBNRPPPPPPPP"), dead.Left{Heavy: 11, Knights: 2, Dark: 1, Light: 1}},
		{"many knights", dead.Left{}, many("N", 1000), dead.Left{Knights: 1000}},
		{"many pawns", dead.Left{}, many("P", 100000), dead.Left{Heavy: 100000}},
		{"many kings", dead.Left{}, many("K", 1000), dead.Left{}},
		{"many no kinds", dead.Left{}, many(".", 1000), dead.Left{}},
		{"many bishops", dead.Left{}, many("B", 1000), dead.Left{Dark: 500, Light: 500}},
		{"many bishops and one", dead.Left{}, many("B", 1001), dead.Left{Dark: 501, Light: 500}},
	} {
		adds(t, c.what, c.left, c.pieces, c.want)
	}
}

// TestAddBishops has them go where there are fewer, and to the dark ones, where there are as many.
func TestAddBishops(t *testing.T) { // P13.2
	for _, c := range []struct {
		dark, light int
		pieces      []api.Kind
		then, those int
	}{
		{0, 0, kinds("B"), 1, 0},
		{0, 0, kinds("BB"), 1, 1},
		{0, 0, kinds("BBB"), 2, 1},
		{0, 0, kinds("BBBB"), 2, 2},
		{0, 0, kinds("BKB.B"), 2, 1},
		{1, 0, kinds("B"), 1, 1},
		{1, 0, kinds("BB"), 2, 1},
		{2, 0, kinds("B"), 2, 1},
		{2, 0, kinds("BB"), 2, 2},
		{2, 0, kinds("BBB"), 3, 2},
		{0, 1, kinds("B"), 1, 1},
		{0, 1, kinds("BB"), 2, 1},
		{0, 1, kinds("BBB"), 2, 2},
		{0, 2, kinds("B"), 1, 2},
		{0, 2, kinds("BB"), 2, 2},
		{0, 2, kinds("BBB"), 3, 2},
		{3, 3, kinds("B"), 4, 3},
		{4, 3, kinds("B"), 4, 4},
		{3, 4, kinds("B"), 4, 4},
		{9, 2, kinds("BBB"), 9, 5},
		{2, 9, kinds("BBB"), 5, 9},
		{9, 2, many("B", 8), 10, 9},
		{2, 9, many("B", 8), 10, 9},
		{-1, -1, kinds("B"), 0, -1},
		{-1, -1, kinds("BB"), 0, 0},
		{-1, 0, kinds("B"), 0, 0},
		{-1, 0, kinds("BB"), 1, 0},
		{0, -1, kinds("B"), 0, 0},
		{0, -1, kinds("BB"), 1, 0},
		{-1, -2, kinds("B"), -1, -1},
		{-2, -1, kinds("B"), -1, -1},
		{-5, -7, kinds("BBB"), -4, -5},
		{-5, 3, kinds("BB"), -3, 3},
		{3, -5, kinds("BB"), 3, -3},
		{math.MinInt, math.MinInt, kinds("BBB"), math.MinInt + 2, math.MinInt + 1},
		{math.MinInt, 1, kinds("BB"), math.MinInt + 2, 1},
		{1, math.MinInt, kinds("BB"), 1, math.MinInt + 2},
		{math.MinInt, math.MaxInt, kinds("B"), math.MinInt + 1, math.MaxInt},
		{math.MaxInt, math.MinInt, kinds("B"), math.MaxInt, math.MinInt + 1},
		{1 << 32, 0, kinds("B"), 1 << 32, 1},
		{0, 1 << 32, kinds("B"), 1, 1 << 32},
	} {
		left, want := dead.Left{Dark: c.dark, Light: c.light}, dead.Left{Dark: c.then, Light: c.those}
		adds(t, "bishops", left, c.pieces, want)
		for _, other := range []int{1, 7, -1, math.MinInt} {
			left.Heavy, left.Knights, want.Heavy, want.Knights = other, -other/2, other, -other/2
			adds(t, "bishops beside others", left, c.pieces, want)
		}
	}
}

// TestAddBishopsBetween has others between the bishops, which do not change where these go.
func TestAddBishopsBetween(t *testing.T) { // P13.2
	for _, c := range []struct {
		pieces []api.Kind
		want   dead.Left
	}{
		{kinds("BPB"), dead.Left{Heavy: 1, Dark: 1, Light: 1}},
		{kinds("PBBB"), dead.Left{Heavy: 1, Dark: 2, Light: 1}},
		{kinds("NBNBNB"), dead.Left{Knights: 3, Dark: 2, Light: 1}},
		{kinds("BKBBNPR."), dead.Left{Heavy: 2, Knights: 1, Dark: 2, Light: 1}},
		{kinds("BK.BK.BK.B"), dead.Left{Dark: 2, Light: 2}},
		{row(api.Bishop, 7, -1, api.Bishop, api.Queen, api.Rook), dead.Left{Heavy: 4, Dark: 1, Light: 1}},
	} {
		adds(t, "bishops between others", dead.Left{}, c.pieces, c.want)
	}
}

// TestAddBelow has what is left count on from below 0: that only whether it is dead takes that as 0.
func TestAddBelow(t *testing.T) { // P13.1, P13.2
	for _, c := range []struct {
		left   dead.Left
		pieces []api.Kind
		want   dead.Left
		is     bool
	}{
		{dead.Left{Heavy: -1}, kinds("P"), dead.Left{}, true},
		{dead.Left{Heavy: -1}, kinds("PQ"), dead.Left{Heavy: 1}, false},
		{dead.Left{Knights: -2}, kinds("NN"), dead.Left{}, true},
		{dead.Left{Knights: -2}, kinds("NNN"), dead.Left{Knights: 1}, true},
		{dead.Left{Knights: -2}, kinds("NNNN"), dead.Left{Knights: 2}, false},
		{dead.Left{Light: -1}, kinds("BBB"), dead.Left{Dark: 1, Light: 1}, false},
		{dead.Left{Dark: -1}, kinds("BB"), dead.Left{Dark: 1}, true},
		{dead.Left{Heavy: math.MinInt, Knights: math.MinInt}, kinds("PNRNN"), dead.Left{Heavy: math.MinInt + 2, Knights: math.MinInt + 3}, true},
	} {
		adds(t, "from below 0", c.left, c.pieces, c.want)
		if got := c.left.Add(c.pieces...).Dead(); got != c.is {
			t.Errorf("%+v with %v: dead %v", c.left, c.pieces, got)
		}
	}
}

// modelAdd counts how many there are of each; bishops first make up what one shade has less, then go by turns, from the dark ones on.
func modelAdd(l dead.Left, pieces []api.Kind) dead.Left {
	times := map[api.Kind]int{}
	for _, kind := range pieces {
		times[kind]++
	}
	l.Knights += times[api.Knight]
	bishops := times[api.Bishop]
	l.Heavy += len(pieces) - times[api.NoKind] - times[api.King] - times[api.Knight] - bishops
	fewer, more := &l.Dark, &l.Light
	if l.Dark > l.Light {
		fewer, more = more, fewer
	}
	even := min(bishops, *more-*fewer)
	*fewer += even
	l.Dark += (bishops - even + 1) / 2
	l.Light += (bishops - even) / 2
	return l
}

// anyKind is mostly one of the six.
func anyKind(d *rand.Rand) api.Kind {
	if d.Intn(6) == 0 {
		wrong := wrongKinds()
		return wrong[d.Intn(len(wrong))]
	}
	return api.Kind(d.Intn(7))
}

func anyLeft(d *rand.Rand) dead.Left {
	low, span := 0, 6
	if d.Intn(2) == 0 {
		low, span = -6, 12
	}
	return dead.Left{Heavy: low + d.Intn(span), Knights: low + d.Intn(span), Dark: low + d.Intn(span), Light: low + d.Intn(span)}
}

// TestAddByModel also turns rows round, and cuts them in two, of which none changes what is left.
func TestAddByModel(t *testing.T) { // P13.2
	d := rand.New(rand.NewSource(131))
	for range 20000 {
		left, pieces := anyLeft(d), make([]api.Kind, d.Intn(20))
		for i := range pieces {
			pieces[i] = anyKind(d)
		}
		want := modelAdd(left, pieces)
		adds(t, "by the model", left, pieces, want)
		cut := d.Intn(len(pieces) + 1)
		if got := left.Add(pieces[:cut]...).Add(pieces[cut:]...); got != want {
			t.Errorf("in two: %+v, want %+v", got, want)
		}
		one := left
		for _, kind := range pieces {
			one = one.Add(kind)
		}
		if one != want {
			t.Errorf("one by one: %+v, want %+v", one, want)
		}
		d.Shuffle(len(pieces), func(i, j int) { pieces[i], pieces[j] = pieces[j], pieces[i] })
		adds(t, "in another order", left, pieces, want)
		if t.Failed() {
			t.Fatalf("%+v with %v", left, pieces)
		}
	}
}

// TestAddLeavesMemory has a row with more memory behind it, and what is left asked by its address.
func TestAddLeavesMemory(t *testing.T) { // P13.2, R3
	memory := row(api.Bishop, api.Knight, api.Pawn, api.Queen, api.King, 7, -1)
	was, left := slices.Clone(memory), &dead.Left{Heavy: 1, Knights: 2, Dark: 3, Light: 4}
	first := left.Add(memory[:2]...)
	second := left.Add(memory[:2]...)
	if !slices.Equal(memory, was) || *left != (dead.Left{Heavy: 1, Knights: 2, Dark: 3, Light: 4}) {
		t.Errorf("%v, %+v", memory, *left)
	}
	if want := (dead.Left{Heavy: 1, Knights: 3, Dark: 4, Light: 4}); first != want || second != want {
		t.Errorf("%+v, %+v", first, second)
	}
	memory[0], left.Heavy = api.Queen, 100
	if want := (dead.Left{Heavy: 1, Knights: 3, Dark: 4, Light: 4}); first != want {
		t.Errorf("%+v", first)
	}
}
