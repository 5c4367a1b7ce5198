package again_test

import (
	"slices"
	"testing"

	"zugzwang/again"
	"zugzwang/api"
	"zugzwang/board"
	"zugzwang/legal"
	"zugzwang/sample"
)

// tells asks how often the position came that came most, and how often others did.
func tells(t *testing.T, what string, b *again.Book, most int, many map[int]api.Position) {
	t.Helper()
	if got := b.Most(); got != most {
		t.Errorf("%s: Most() = %d, want %d", what, got, most)
	}
	for want, p := range many {
		if got := b.Many(p); got != want {
			t.Errorf("%s: Many() = %d, want %d, of %v", what, got, want, p)
		}
	}
}

// steps are the positions behind the moves of a row, one after the other, that at its begin ahead of them.
func steps(t *testing.T, p api.Position, texts string) []api.Position {
	t.Helper()
	all := []api.Position{p}
	for _, m := range sample.Moves(texts) {
		q, errno := legal.Play(all[len(all)-1], m)
		if errno != api.OK {
			t.Fatalf("%s: %v: %d", texts, m, errno)
		}
		all = append(all, q)
	}
	return all
}

const knights = " g1f3 g8f6 f3g1 f6g8"

// TestRows has games, and how often each position in them came when it was put.
func TestRows(t *testing.T) { // P12.2
	castle := sample.Castle(sample.Drawn("e1K a1R h1R e8k a8r h8r"), 15)
	for _, c := range []struct {
		what  string
		p     api.Position
		row   string
		times []int
	}{
		{"the begin", board.Start(), "", []int{1}},
		{"both knights out and back", board.Start(), knights, []int{1, 1, 1, 1, 2}},
		{"both knights out and back, twice", board.Start(), knights + knights, []int{1, 1, 1, 1, 2, 2, 2, 2, 3}},
		{"five times", board.Start(), knights + knights + knights + knights, []int{1, 1, 1, 1, 2, 2, 2, 2, 3, 3, 3, 3, 4, 4, 4, 4, 5}},
		{"a pawn that may not be taken over", board.Start(), "e2e4 g8f6 g1f3 f6g8 f3g1", []int{1, 1, 1, 1, 1, 2}},
		{"a pawn that may be taken over", board.Start(), "e2e4 a7a6 e4e5 d7d5" + knights + knights, []int{1, 1, 1, 1, 1, 1, 1, 1, 1, 2, 2, 2, 2}},
		{"kings out and back, with castlings", castle, "e1f1 e8f8 f1e1 f8e8 e1f1 e8f8 f1e1 f8e8", []int{1, 1, 1, 1, 1, 1, 2, 2, 2}},
		{"a rook out and back, with castlings", castle, "h1h2 e8e7 h2h1 e7e8 h1h2 e8e7 h2h1 e7e8", []int{1, 1, 1, 1, 1, 1, 2, 2, 2}},
		{"kings out and back, without castlings", sample.Castle(castle, 0), "e1f1 e8f8 f1e1 f8e8", []int{1, 1, 1, 1, 2}},
		{"another way to the same", board.Start(), "g1f3 g8f6 b1c3 b8c6 f3g1 c6b8 c3b1 f6g8 b1c3 g8f6", []int{1, 1, 1, 1, 1, 1, 1, 1, 2, 1, 2}},
	} {
		for _, turned := range []bool{false, true} {
			b := again.New()
			for n, p := range steps(t, c.p, c.row) {
				if turned {
					p = board.Turn(p)
				}
				want := c.times[n]
				if got := b.Many(p); got != want-1 {
					t.Errorf("%s: ahead of %d moves: came %d times, want %d", c.what, n, got, want-1)
				}
				if got := b.Put(p); got != want {
					t.Errorf("%s: behind %d moves: Put = %d, want %d", c.what, n, got, want)
				}
				tells(t, c.what, b, slices.Max(c.times[:n+1]), map[int]api.Position{want: p})
			}
		}
	}
}

func TestExample(t *testing.T) { // P12.2
	all := steps(t, board.Start(), knights)
	b := again.New(all...)
	tells(t, "the begin came twice", b, 2, map[int]api.Position{2: board.Start(), 1: all[1], 0: sample.Midst()})
}

func TestBookOfNone(t *testing.T) { // P12.2
	for _, b := range []*again.Book{again.New(), again.New(nil...), again.New([]api.Position{}...)} {
		if b == nil {
			t.Fatal("New of none: no book")
		}
		for _, p := range bases() {
			tells(t, "a book of none", b, 0, map[int]api.Position{0: p})
		}
		if got := b.Put(sample.Midst()); got != 1 {
			t.Errorf("Put = %d", got)
		}
		tells(t, "a book of one", b, 1, map[int]api.Position{1: sample.Midst(), 0: sample.Late()})
	}
}

// TestTimes has positions that come once, twice, five times, by New and by Put, between each other and one behind the other.
func TestTimes(t *testing.T) { // P12.2
	once, twice, five := sample.Midst(), sample.WhiteLeapt(), board.Start()
	many := map[int]api.Position{0: sample.Late(), 1: once, 2: twice, 5: five}
	for _, row := range [][]api.Position{
		{once, twice, twice, five, five, five, five, five},
		{five, five, five, five, five, twice, twice, once},
		{five, twice, five, once, five, twice, five, five},
		{twice, five, five, five, five, once, five, twice},
	} {
		for n := range len(row) + 1 {
			b := again.New(row[:n]...)
			for i, p := range row[n:] {
				ahead := 0
				for _, q := range row[:n+i] {
					if q == p {
						ahead++
					}
				}
				if got := b.Many(p); got != ahead {
					t.Errorf("behind %d: came %d times, want %d", n+i, got, ahead)
				}
				if got := b.Put(p); got != ahead+1 {
					t.Errorf("behind %d: Put = %d, want %d", n+i, got, ahead+1)
				}
			}
			tells(t, "a book of many", b, 5, many)
			tells(t, "a book's copy", b.Copy(), 5, many)
		}
	}
}

// TestSamePut has unlike positions that are the same.
func TestSamePut(t *testing.T) { // P12.2
	p := drawn("e1K h8k d5p e5P e8r", "d6")
	b := again.New(p, without(p), sample.Counts(without(p), 7, 9), sample.Counts(p, 0, 90))
	tells(t, "the same", b, 4, map[int]api.Position{4: p, 0: sample.Castle(p, 1)})
	p = drawn("e1K h8k d5p e5P", "d6")
	b = again.New(p, without(p), sample.Counts(without(p), 7, 9), sample.Counts(p, 0, 90), sample.Counts(without(p), 50, 1))
	tells(t, "not the same", b, 3, map[int]api.Position{2: p, 3: without(p)})
}

// TestManyPutNothing asks a book over and over.
func TestManyPutNothing(t *testing.T) { // P12.2
	b := again.New(sample.Midst())
	for range 5 {
		tells(t, "asked again", b, 1, map[int]api.Position{1: sample.Midst(), 0: sample.Late()})
	}
	if got := b.Put(sample.Late()); got != 1 {
		t.Errorf("Put behind Many = %d", got)
	}
}

// TestMost has it rise, by one position and then by another.
func TestMost(t *testing.T) { // P12.2
	b := again.New()
	for n, c := range []struct {
		p    api.Position
		most int
	}{
		{sample.Begin(), 1}, {sample.Midst(), 1}, {sample.Late(), 1}, {sample.Midst(), 2}, {sample.Begin(), 2},
		{sample.Late(), 2}, {sample.Late(), 3}, {sample.Begin(), 3}, {sample.Midst(), 3}, {sample.Midst(), 4},
	} {
		b.Put(c.p)
		if got := b.Most(); got != c.most {
			t.Errorf("behind %d: Most() = %d, want %d", n+1, got, c.most)
		}
	}
}

// TestGreatBook has a long game's positions, and more.
func TestGreatBook(t *testing.T) { // P12.2
	b := again.New()
	for round := range 3 {
		for n := range 64 * 63 {
			p := sample.Bare()
			p.Squares[n/63] = sample.Piece('K')
			p.Squares[(n/63+1+n%63)%64] = sample.Piece('k')
			if got := b.Put(p); got != round+1 {
				t.Fatalf("put %d times: %d, %v", round+1, got, p)
			}
		}
		tells(t, "a great book", b, round+1, nil)
	}
}

// TestCopy has a copy and its book go apart.
func TestCopy(t *testing.T) { // P12.2
	p, q := sample.Begin(), sample.Midst()
	b := again.New(p, p, q)
	c := b.Copy()
	tells(t, "a copy", c, 2, map[int]api.Position{2: p, 1: q, 0: sample.Late()})

	if got := c.Put(p) + c.Put(p); got != 3+4 {
		t.Errorf("put into the copy: %d", got)
	}
	c.Put(sample.Late())
	tells(t, "the book, behind what was put into its copy", b, 2, map[int]api.Position{2: p, 1: q, 0: sample.Late()})
	tells(t, "the copy", c, 4, map[int]api.Position{4: p, 1: q})

	for n := range 4 {
		if got := b.Put(q); got != n+2 {
			t.Errorf("put into the book: %d", got)
		}
	}
	tells(t, "the copy, behind what was put into its book", c, 4, map[int]api.Position{4: p, 1: q})
	tells(t, "the book", b, 5, map[int]api.Position{2: p, 5: q, 0: sample.Late()})

	d := c.Copy()
	d.Put(q)
	tells(t, "a copy's copy", d, 4, map[int]api.Position{4: p, 2: q, 1: sample.Late()})
	tells(t, "the copy, behind what was put into its own", c, 4, map[int]api.Position{4: p, 1: q})

	none := again.New().Copy()
	tells(t, "a copy of a book of none", none, 0, map[int]api.Position{0: p})
	if none.Put(p) != 1 || none.Put(p) != 2 || none.Most() != 2 {
		t.Error("a copy of a book of none counts otherwise")
	}
}

// TestTwoBooks has books of the same positions go apart.
func TestTwoBooks(t *testing.T) { // P12.2
	row := []api.Position{sample.Begin(), sample.Late()}
	a, b := again.New(row...), again.New(row...)
	a.Put(row[0])
	tells(t, "the one", a, 2, map[int]api.Position{2: row[0], 1: row[1]})
	tells(t, "the other", b, 1, map[int]api.Position{1: row[0]})
}

// TestRowStays has the row that New was given stay, and a book that does not hang on what its owner does with it later.
func TestRowStays(t *testing.T) { // R3
	row := []api.Position{sample.Begin(), sample.Midst(), sample.Begin(), sample.WhiteLeapt(), sample.Late(), sample.Late()}
	was := slices.Clone(row)
	b := again.New(row[:4]...)
	b.Put(row[4])
	c := b.Copy()
	if !slices.Equal(row, was) {
		t.Errorf("%v became %v", was, row)
	}
	slices.Reverse(row)
	row[0], row[5] = sample.Bare(), sample.Bare()
	for _, book := range []*again.Book{b, c} {
		tells(t, "a book whose row was turned over", book, 2, map[int]api.Position{2: was[0], 1: was[1], 0: sample.Bare()})
		tells(t, "a book whose row was turned over", book, 2, map[int]api.Position{1: was[3]})
		tells(t, "a book whose row was turned over", book, 2, map[int]api.Position{1: was[4]})
	}
}
