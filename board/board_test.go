package board_test

import (
	"math"
	"math/rand"
	"slices"
	"strings"
	"testing"

	"zugzwang/api"
	"zugzwang/board"
)

// letters are the kinds from 1 on, white's in capitals.
const letters = "PNBRQKpnbrqk"

func piece(letter byte) api.Piece {
	if letter == '.' {
		return api.Piece{}
	}
	n := strings.IndexByte(letters, letter)
	return api.Piece{Kind: api.Kind(n%6 + 1), Side: api.Side(n / 6)}
}

// sq is the square of a name.
func sq(name string) int { return int(name[0]-'a') + 8*int(name[1]-'1') }

func squares(names string) []int {
	var all []int
	for _, name := range strings.Fields(names) {
		all = append(all, sq(name))
	}
	return all
}

// drawn is a position whose rows are given from rank 8 down, as one sees a board; white moves.
func drawn(rows ...string) api.Position {
	p := api.Position{Over: -1, Full: 1}
	for i, row := range rows {
		for file := range 8 {
			p.Squares[8*(7-i)+file] = piece(row[file])
		}
	}
	return p
}

func begin() api.Position {
	p := drawn("rnbqkbnr", "pppppppp", "........", "........", "........", "........", "PPPPPPPP", "RNBQKBNR")
	p.Castle = 15
	return p
}

// castles has all four castlings, and room for kings and rooks to leave.
func castles() api.Position {
	p := drawn("r...k..r", "p.p..ppp", "..nb....", "...p....", "..P.....", "..BN....", "PP...PPP", "R...K..R")
	p.Castle, p.Half, p.Full = 15, 7, 20
	return p
}

// whiteLeapt is a position of black's move: a white pawn went over e3.
func whiteLeapt() api.Position {
	p := drawn("....k...", "pp...ppp", "........", "........", "...pP...", "........", "PPP..PPP", "....K...")
	p.Side, p.Over, p.Full = api.Black, sq("e3"), 12
	return p
}

// blackLeapt is a position of white's move: a black pawn went over d6.
func blackLeapt() api.Position {
	p := drawn("....k...", "ppp..ppp", "........", "...pP...", "........", "........", "PP...PPP", "....K...")
	p.Over, p.Full = sq("d6"), 13
	return p
}

func bare() api.Position {
	return api.Position{Over: -1, Full: 1}
}

func rightOnes() []api.Position {
	late := drawn("........", "...k....", ".....R..", "........", "........", "...q....", "....K...", "........")
	late.Side, late.Half, late.Full = api.Black, 1024, 16384
	return []api.Position{begin(), castles(), whiteLeapt(), blackLeapt(), late}
}

func is(t *testing.T, what string, p api.Position, want bool) {
	t.Helper()
	if got := board.Right(p); got != want {
		t.Errorf("%s: right is %v, want %v", what, got, want)
	}
}

// with is a position with one piece put, by its letter, on squares.
func with(p api.Position, letter byte, names string) api.Position {
	for _, s := range squares(names) {
		p.Squares[s] = piece(letter)
	}
	return p
}

// wrongPieces are those that may not be, and are not none.
func wrongPieces() []api.Piece {
	var all []api.Piece
	for _, k := range []api.Kind{-1, 0, 7, 8, -6, 255, 256, 257, 1 << 32, 1<<32 + 1, math.MaxInt, math.MinInt} {
		for _, s := range []api.Side{-1, 0, 1, 2, 3, 256, 1 << 32, math.MaxInt, math.MinInt} {
			if x := (api.Piece{Kind: k, Side: s}); x != (api.Piece{}) {
				all = append(all, x)
			}
		}
	}
	for k := api.Pawn; k <= api.King; k++ {
		for _, s := range []api.Side{-1, 2, 3, -2, 256, 257, 1 << 32, math.MaxInt, math.MinInt} {
			all = append(all, api.Piece{Kind: k, Side: s})
		}
	}
	return all
}

func rightPieces() []api.Piece {
	var all []api.Piece
	for i := range letters {
		all = append(all, piece(letters[i]))
	}
	return all
}

// noSquares are numbers below and above the board's.
func noSquares() []int {
	return []int{-1, -2, -8, -63, -64, -65, 64, 65, 71, 72, 127, 128, 256, 1 << 32, 1<<32 + 28, -1 << 32, math.MaxInt, math.MinInt}
}

func wrongSides() []api.Side {
	return []api.Side{-1, 2, 3, -2, 4, 256, 257, 1 << 32, 1<<32 + 1, math.MaxInt, math.MinInt}
}

func TestStart(t *testing.T) { // P6.1
	if got := board.Start(); got != begin() {
		t.Errorf("the begin is %v", got)
	}
	p := board.Start()
	if p.Squares[60] != (api.Piece{Kind: api.King, Side: api.Black}) {
		t.Errorf("on 60 stands %v", p.Squares[60])
	}
	for s := 8; s <= 15; s++ {
		if p.Squares[s] != (api.Piece{Kind: api.Pawn, Side: api.White}) {
			t.Errorf("on %d stands %v", s, p.Squares[s])
		}
	}
}

func TestEmpty(t *testing.T) { // P6.1
	if got := board.Empty(); got != bare() {
		t.Errorf("a bare board is %v", got)
	}
	is(t, "a bare board", board.Empty(), false)
}

func TestOther(t *testing.T) { // P6.1
	if board.Other(api.White) != api.Black || board.Other(api.Black) != api.White || board.Other(0) != 1 {
		t.Error("the sides are not each other's other")
	}
	for _, s := range wrongSides() {
		if got := board.Other(s); got != api.White {
			t.Errorf("Other(%d) = %d", s, got)
		}
	}
}

func TestRightOnes(t *testing.T) { // P6.1
	for i, p := range rightOnes() {
		if !board.Right(p) {
			t.Errorf("%d: %v is not right", i, p)
		}
	}
	is(t, "two kings side by side", drawn("........", "........", "........", "...kK...", "........", "........", "........", "........"), true)
	is(t, "nine queens", with(castles(), 'Q', "a3 b3 e3 f3 g3 h3 a4 b4 d4"), true)
	is(t, "nothing at all", api.Position{}, false)
}

func TestPiecesThatMayNotBe(t *testing.T) { // P6.1
	for _, x := range wrongPieces() {
		for _, s := range squares("e4 a3 h6 b8 g1") {
			p := castles()
			p.Squares[s] = x
			if board.Right(p) {
				t.Errorf("right with %v on %d", x, s)
			}
		}
	}
	for _, x := range rightPieces() {
		p := castles()
		p.Squares[sq("e4")] = x
		if got := board.Right(p); got != (x.Kind != api.King) {
			t.Errorf("with %v on e4: %v", x, got)
		}
	}
}

func TestKings(t *testing.T) { // P6.1
	p := begin()
	p.Castle = 0
	is(t, "no castlings", p, true)
	is(t, "no white king", with(p, '.', "e1"), false)
	is(t, "no black king", with(p, '.', "e8"), false)
	is(t, "no kings", with(p, '.', "e1 e8"), false)
	is(t, "two white kings", with(p, 'K', "e4"), false)
	is(t, "two black kings", with(p, 'k', "e4"), false)
	is(t, "two of both", with(with(p, 'k', "e4"), 'K', "d4"), false)
	is(t, "two white ones, no black one", with(p, 'K', "e8"), false)
	is(t, "two black ones, no white one", with(p, 'k', "e1"), false)
	is(t, "three white kings", with(p, 'K', "a4 h5"), false)
	is(t, "nine white kings", with(p, 'K', "a3 b3 c3 d3 e3 f3 g3 h3"), false)
	is(t, "a queen for the white king", with(p, 'Q', "e1"), false)
	for s := range 64 {
		p := bare()
		p.Squares[s], p.Squares[(s+29)%64] = piece('K'), piece('k')
		is(t, "just the kings", p, true)
		p.Squares[(s+11)%64] = piece('k')
		is(t, "a king too many", p, false)
	}
}

func TestPawnsOnEndRanks(t *testing.T) { // P6.1
	lone := drawn("........", "........", "........", "...k....", "........", "..K.....", "........", "........")
	for s := range 64 {
		if lone.Squares[s] != (api.Piece{}) {
			continue
		}
		for _, letter := range []byte("Pp") {
			p := lone
			p.Squares[s] = piece(letter)
			if got := board.Right(p); got != (s >= 8 && s <= 55) {
				t.Errorf("with %c on %d: %v", letter, s, got)
			}
		}
		for _, letter := range []byte("NBRQnbrq") {
			p := lone
			p.Squares[s] = piece(letter)
			is(t, string(letter), p, true)
		}
	}
}

func TestWrongSides(t *testing.T) { // P6.1
	for _, s := range wrongSides() {
		for _, p := range rightOnes() {
			p.Side = s
			if board.Right(p) {
				t.Errorf("right with the side %d: %v", s, p)
			}
		}
	}
	for _, s := range []api.Side{api.White, api.Black} {
		p := castles()
		p.Side = s
		is(t, "either side moves", p, true)
	}
}

func TestCastleNumbers(t *testing.T) { // P6.1
	for c := api.Castle(-40); c < 300; c++ {
		p := castles()
		p.Castle = c
		if got := board.Right(p); got != (c >= 0 && c <= 15) {
			t.Errorf("Castle %d: %v", c, got)
		}
	}
	for _, c := range []api.Castle{1 << 16, 1 << 32, 1<<32 + 15, math.MaxInt, math.MinInt, math.MinInt + 15} {
		p := castles()
		p.Castle = c
		is(t, "a castling far off", p, false)
	}
}

func TestCastlingsStand(t *testing.T) { // P6.1
	for _, c := range []struct {
		castle      api.Castle
		king, rook  string
		color, away byte // the king's letter and the rook's of that side
		enemy       byte
	}{
		{1, "e1", "h1", 'K', 'R', 'r'}, {2, "e1", "a1", 'K', 'R', 'r'},
		{4, "e8", "h8", 'k', 'r', 'R'}, {8, "e8", "a8", 'k', 'r', 'R'},
	} {
		p := castles()
		p.Castle = c.castle
		is(t, "all at their places", p, true)
		// The other side and the other rook do not matter.
		alone := p
		for _, s := range squares("a1 h1 a8 h8") {
			if s != sq(c.rook) {
				alone.Squares[s] = api.Piece{}
			}
		}
		is(t, "the other rooks away", alone, true)
		is(t, "the rook away", with(p, '.', c.rook), false)
		is(t, "the other side's rook there", with(p, c.enemy, c.rook), false)
		for _, letter := range []byte("NBQnbq") {
			is(t, "another piece for the rook", with(p, letter, c.rook), false)
		}
		for _, to := range []string{"d1", "f1", "e2", "d8", "f8", "e7", "e4"} {
			moved := with(with(p, '.', c.king), c.color, to)
			is(t, "the king away", moved, false)
			is(t, "the king away, a queen there", with(moved, 'Q'+c.color-'K', c.king), false)
			moved.Castle = 0
			is(t, "the king away, no castling", moved, true)
		}
		for _, to := range []string{"g1", "b1", "g8", "b8", "h3", "a4"} {
			moved := with(with(p, '.', c.rook), c.away, to)
			is(t, "the rook beside", moved, false)
		}
	}
}

func TestKingsChanged(t *testing.T) { // P6.1
	p := castles()
	p = with(with(p, 'k', "e1"), 'K', "e8")
	for c := api.Castle(0); c <= 15; c++ {
		p.Castle = c
		if got := board.Right(p); got != (c == 0) {
			t.Errorf("each king at the other's place, Castle %d: %v", c, got)
		}
	}
}

// TestEachCastle takes the king or a rook away, and asks of all sixteen.
func TestEachCastle(t *testing.T) { // P6.1
	for _, c := range []struct {
		gone string
		lost api.Castle
	}{{"h1", 1}, {"a1", 2}, {"h8", 4}, {"a8", 8}, {"h1 a1", 3}, {"a8 h8", 12}, {"h1 a8", 9}, {"a1 h1 a8 h8", 15}} {
		for castle := api.Castle(0); castle <= 15; castle++ {
			p := with(castles(), '.', c.gone)
			p.Castle = castle
			if got := board.Right(p); got != (castle&c.lost == 0) {
				t.Errorf("Castle %d with %s gone: %v", castle, c.gone, got)
			}
		}
	}
	for castle := api.Castle(0); castle <= 15; castle++ {
		white, black := with(with(castles(), '.', "e1"), 'K', "f1"), with(with(castles(), '.', "e8"), 'k', "d8")
		white.Castle, black.Castle = castle, castle
		if got := board.Right(white); got != (castle&3 == 0) {
			t.Errorf("Castle %d with white's king on f1: %v", castle, got)
		}
		if got := board.Right(black); got != (castle&12 == 0) {
			t.Errorf("Castle %d with black's king on d8: %v", castle, got)
		}
	}
}

func TestOverSquares(t *testing.T) { // P6.1
	// Of each file a pawn went two ranks, of either side: only the rank asks.
	p := drawn("........", "........", "........", "pppppppp", "PPPPPPPP", "........", "........", "........")
	for over := -70; over < 140; over++ {
		for _, side := range []api.Side{api.White, api.Black} {
			q := p
			q.Squares[4], q.Squares[60] = piece('K'), piece('k')
			q.Side, q.Over = side, over
			want := over == -1 || side == api.White && over >= 40 && over <= 47 || side == api.Black && over >= 16 && over <= 23
			if got := board.Right(q); got != want {
				t.Errorf("side %d, over %d: %v", side, over, got)
			}
		}
	}
	for _, over := range []int{-2, -1 << 32, 1 << 32, 1<<32 + 44, 1<<32 + 20, math.MaxInt, math.MinInt} {
		for _, q := range []api.Position{whiteLeapt(), blackLeapt()} {
			q.Over = over
			is(t, "gone over a square that is none", q, false)
		}
	}
}

func TestOverAsItWas(t *testing.T) { // P6.1
	for _, c := range []struct {
		p             api.Position
		over, on, by  string
		pawn, another byte
	}{
		{whiteLeapt(), "e3", "e2", "e4", 'P', 'p'},
		{blackLeapt(), "d6", "d7", "d5", 'p', 'P'},
	} {
		is(t, "a pawn went over", c.p, true)
		for i := range letters {
			letter := letters[i]
			if letter == 'K' || letter == 'k' {
				continue
			}
			is(t, "stands on it", with(c.p, letter, c.over), false)
			is(t, "stands a rank on", with(c.p, letter, c.on), false)
			is(t, "stands a rank back", with(c.p, letter, c.by), letter == c.pawn)
		}
		king, old := byte('K'), "e1"
		for range 2 {
			moved := with(c.p, '.', old)
			is(t, "a king on it", with(moved, king, c.over), false)
			is(t, "a king a rank on", with(moved, king, c.on), false)
			is(t, "a king a rank back", with(moved, king, c.by), false)
			is(t, "a king beside", with(moved, king, "h3"), true)
			king, old = 'k', "e8"
		}
		is(t, "nothing a rank back", with(c.p, '.', c.by), false)
		is(t, "the other side's pawn", with(c.p, c.another, c.by), false)
		other := c.p
		other.Side = 1 - other.Side
		is(t, "the other side moves", other, false)
		other.Over = -1
		is(t, "the other side moves, over none", other, true)
	}
}

func TestOverAsksHalf(t *testing.T) { // P6.1
	for _, p := range []api.Position{whiteLeapt(), blackLeapt()} {
		for _, half := range []int{0, 1, 2, 50, 1023, 1024, 1025, -1, 1 << 32, math.MinInt} {
			p.Half = half
			if got := board.Right(p); got != (half == 0) {
				t.Errorf("over %d, Half %d: %v", p.Over, half, got)
			}
		}
	}
	p := begin()
	p.Half = 1
	is(t, "gone over none, Half 1", p, true)
}

func TestCounts(t *testing.T) { // P6.1
	for n, want := range map[int]bool{-1: false, 0: true, 1: true, 512: true, 1023: true, 1024: true, 1025: false, 1 << 14: false, 1 << 32: false, math.MaxInt: false, math.MinInt: false} {
		p := castles()
		p.Half = n
		if got := board.Right(p); got != want {
			t.Errorf("Half %d: %v", n, got)
		}
	}
	for n, want := range map[int]bool{-1: false, 0: false, 1: true, 2: true, 1024: true, 1025: true, 16383: true, 16384: true, 16385: false, 1 << 32: false, 1<<32 + 1: false, math.MaxInt: false, math.MinInt: false} {
		p := castles()
		p.Full = n
		if got := board.Right(p); got != want {
			t.Errorf("Full %d: %v", n, got)
		}
	}
}

// modelRight says by other means than the package what the chapter asks: from texts of the board.
func modelRight(p api.Position) bool {
	var text [64]byte
	for s, x := range p.Squares {
		switch {
		case x == (api.Piece{}):
			text[s] = '.'
		case x.Kind < 1 || x.Kind > 6 || x.Side < 0 || x.Side > 1:
			return false
		default:
			text[s] = letters[int(x.Kind)-1+6*int(x.Side)]
		}
	}
	all := string(text[:])
	if strings.Count(all, "K") != 1 || strings.Count(all, "k") != 1 || strings.ContainsAny(all[:8]+all[56:], "Pp") {
		return false
	}
	if p.Side != 0 && p.Side != 1 || p.Castle < 0 || p.Castle > 15 {
		return false
	}
	for i, places := range []string{"K4R7", "K4R0", "k4r7", "k4r0"} {
		home := all[:8]
		if i > 1 {
			home = all[56:]
		}
		if p.Castle>>i&1 == 1 && (home[places[1]-'0'] != places[0] || home[places[3]-'0'] != places[2]) {
			return false
		}
	}
	if p.Half < 0 || p.Half > 1024 || p.Full < 1 || p.Full > 16384 {
		return false
	}
	if p.Over == -1 {
		return true
	}
	if p.Over < 0 || p.Over > 63 || p.Half != 0 {
		return false
	}
	file := ""
	for rank := range 8 {
		file += string(all[8*rank+p.Over%8])
	}
	if p.Side == 0 {
		return p.Over/8 == 5 && file[4:7] == "p.."
	}
	return p.Over/8 == 2 && file[1:4] == "..P"
}

// disturbed is a right position with some of its parts changed, most often to what may stand there.
func disturbed(r *rand.Rand) api.Position {
	ones := rightOnes()
	p := ones[r.Intn(len(ones))]
	for range r.Intn(4) {
		switch r.Intn(9) {
		case 0:
			p.Side = api.Side(r.Intn(3))
		case 1:
			p.Castle = api.Castle(r.Intn(18) - 1)
		case 2:
			p.Over = r.Intn(66) - 2
		case 3:
			p.Half = []int{0, 0, 1, -1, 1024, 1025}[r.Intn(6)]
		case 4:
			p.Full = []int{0, 1, 2, 16384, 16385}[r.Intn(5)]
		case 5, 6:
			a, b := r.Intn(64), r.Intn(64)
			p.Squares[a], p.Squares[b] = p.Squares[b], p.Squares[a]
		case 7:
			p.Squares[r.Intn(64)] = api.Piece{}
		case 8:
			p.Squares[r.Intn(64)] = api.Piece{Kind: api.Kind(r.Intn(8)), Side: api.Side(r.Intn(2))}
		}
	}
	return p
}

func TestRightByModel(t *testing.T) { // P6.1
	r := rand.New(rand.NewSource(6))
	right := 0
	for range 40000 {
		p := disturbed(r)
		want := modelRight(p)
		if want {
			right++
		}
		if got := board.Right(p); got != want {
			t.Fatalf("right is %v of %v", got, p)
		}
	}
	if right < 4000 || right > 36000 {
		t.Errorf("%d right ones try little", right)
	}
}

func TestPut(t *testing.T) { // P6.2
	for _, x := range append(rightPieces(), api.Piece{}) {
		for _, at := range [][]int{nil, {}, {0}, {63}, {20, 21}, {28, 28}, {7, 56, 0, 63, 7}, squares("a1 b2 c3 d4 e5 f6 g7 h8")} {
			for _, p := range append(rightOnes(), bare(), api.Position{}) {
				want := p
				for _, s := range at {
					want.Squares[s] = x
				}
				got, errno := board.Put(p, x, at...)
				if got != want || errno != api.OK {
					t.Fatalf("Put(.., %v, %v) = %v, %d", x, at, got, errno)
				}
			}
		}
	}
	if got, errno := board.Put(begin(), piece('Q')); got != begin() || errno != api.OK {
		t.Errorf("put on no squares: %v, %d", got, errno)
	}
}

func TestPutOnEachSquare(t *testing.T) { // P6.2
	var all []int
	for s := range 64 {
		all = append(all, s)
		got, errno := board.Put(bare(), piece('n'), s)
		if found := board.Find(got, piece('n')); errno != api.OK || !slices.Equal(found, []int{s}) {
			t.Errorf("put on %d: %d, found on %v", s, errno, found)
		}
	}
	got, errno := board.Put(begin(), api.Piece{}, all...)
	want := begin()
	want.Squares = [64]api.Piece{}
	if got != want || errno != api.OK {
		t.Errorf("taken off all squares: %v, %d", got, errno)
	}
}

// TestPutAsksOfNothingElse: a position need not be right, nor become so.
func TestPutAsksOfNothingElse(t *testing.T) { // P6.2
	p := api.Position{Side: 9, Castle: -3, Over: 99, Half: -1, Full: -1}
	p.Squares[5] = api.Piece{Kind: 77, Side: -7}
	want := p
	want.Squares[0], want.Squares[1] = piece('P'), piece('P')
	if got, errno := board.Put(p, piece('P'), 0, 1); got != want || errno != api.OK {
		t.Errorf("Put on a position that is not right: %v, %d", got, errno)
	}
	want = begin()
	want.Squares[3], want.Squares[60] = piece('K'), piece('K')
	if got, errno := board.Put(begin(), piece('K'), 3, 60); got != want || errno != api.OK {
		t.Errorf("three kings: %v, %d", got, errno)
	}
}

func fails(t *testing.T, want api.Errno, x api.Piece, at ...int) {
	t.Helper()
	for _, p := range []api.Position{begin(), whiteLeapt(), bare()} {
		if got, errno := board.Put(p, x, at...); got != (api.Position{}) || errno != want {
			t.Errorf("Put(.., %v, %v) = %v, %d, want %d", x, at, got, errno, want)
		}
	}
}

func TestPutWrong(t *testing.T) { // P6.2
	for _, x := range wrongPieces() {
		fails(t, api.ErrArg, x)
		fails(t, api.ErrArg, x, 28)
		fails(t, api.ErrArg, x, 28, 64) // both faults
		fails(t, api.ErrArg, x, -1)
	}
	for _, s := range noSquares() {
		for _, x := range append(rightPieces(), api.Piece{}) {
			fails(t, api.ErrRange, x, s)
			fails(t, api.ErrRange, x, 28, s)
			fails(t, api.ErrRange, x, s, 28)
			fails(t, api.ErrRange, x, 0, 1, 2, s, 3)
			fails(t, api.ErrRange, x, s, s)
		}
	}
}

// modelFind goes through the squares from above.
func modelFind(p api.Position, x api.Piece) []int {
	var all []int
	for s := 63; s >= 0; s-- {
		if p.Squares[s].Kind == x.Kind && p.Squares[s].Side == x.Side {
			all = append(all, s)
		}
	}
	slices.Sort(all)
	return all
}

func TestFind(t *testing.T) { // P6.2
	for _, c := range []struct {
		letter byte
		on     string
	}{
		{'K', "e1"}, {'Q', "d1"}, {'R', "a1 h1"}, {'B', "c1 f1"}, {'N', "b1 g1"}, {'P', "a2 b2 c2 d2 e2 f2 g2 h2"},
		{'k', "e8"}, {'q', "d8"}, {'r', "a8 h8"}, {'b', "c8 f8"}, {'n', "b8 g8"}, {'p', "a7 b7 c7 d7 e7 f7 g7 h7"},
	} {
		if got := board.Find(begin(), piece(c.letter)); !slices.Equal(got, squares(c.on)) {
			t.Errorf("%c stands on %v", c.letter, got)
		}
	}
	for _, p := range rightOnes() {
		for _, x := range append(rightPieces(), api.Piece{}) {
			if got, want := board.Find(p, x), modelFind(p, x); !slices.Equal(got, want) {
				t.Errorf("%v stands on %v, want %v", x, got, want)
			}
		}
	}
	if got := board.Find(bare(), piece('K')); len(got) != 0 {
		t.Errorf("on a bare board a king stands on %v", got)
	}
	if got := board.Find(bare(), api.Piece{}); len(got) != 64 || got[0] != 0 || got[63] != 63 {
		t.Errorf("on a bare board none stands on %v", got)
	}
}

func TestFindWhateverItIs(t *testing.T) { // P6.2
	for _, x := range wrongPieces() {
		p := begin()
		if got := board.Find(p, x); len(got) != 0 {
			t.Errorf("%v stands on %v", x, got)
		}
		p.Squares[63], p.Squares[0], p.Squares[28] = x, x, x
		if got := board.Find(p, x); !slices.Equal(got, []int{0, 28, 63}) {
			t.Errorf("%v stands on %v", x, got)
		}
	}
}

func TestKing(t *testing.T) { // P6.2
	if board.King(begin(), api.White) != 4 || board.King(begin(), api.Black) != 60 {
		t.Error("the kings of the begin")
	}
	for s := range 64 {
		p := bare()
		p.Squares[s] = piece('k')
		if board.King(p, api.Black) != s || board.King(p, api.White) != api.NoSquare {
			t.Errorf("black's king on %d: %d, %d", s, board.King(p, api.Black), board.King(p, api.White))
		}
		p.Squares[63-s] = piece('K')
		if board.King(p, api.White) != 63-s {
			t.Errorf("white's king on %d: %d", 63-s, board.King(p, api.White))
		}
	}
	p := with(with(begin(), 'K', "d4 h8 e1"), 'k', "a1 c5")
	if board.King(p, api.White) != 4 || board.King(p, api.Black) != 0 {
		t.Error("of several kings not the least square's")
	}
	if board.King(bare(), api.White) != api.NoSquare || board.King(bare(), api.Black) != api.NoSquare {
		t.Error("a king on a bare board")
	}
}

func TestKingOfSideThatMayNotBe(t *testing.T) { // P6.2
	for _, s := range wrongSides() {
		for _, p := range rightOnes() {
			if got := board.King(p, s); got != api.NoSquare {
				t.Errorf("the side %d has a king on %d", s, got)
			}
		}
		// What the words say of a king holds of one that may not be, too.
		p := begin()
		p.Squares[50], p.Squares[40] = api.Piece{Kind: api.King, Side: s}, api.Piece{Kind: api.King, Side: s}
		if got := board.King(p, s); got != 40 {
			t.Errorf("the side %d has a king on %d", s, got)
		}
	}
}

// modelTurn is what a board, whose pieces may be, looks like from the other side.
func modelTurn(p api.Position) api.Position {
	q := p
	for rank := range 8 {
		for file := range 8 {
			x := p.Squares[8*rank+file]
			if x.Kind != 0 {
				x.Side = 1 - x.Side
			}
			q.Squares[8*(7-rank)+file] = x
		}
	}
	q.Side = 1 - p.Side
	q.Castle = 0
	for i, to := range []api.Castle{4, 8, 1, 2} {
		if p.Castle>>i&1 == 1 {
			q.Castle += to
		}
	}
	if p.Over >= 0 && p.Over <= 63 {
		q.Over = 8*(7-p.Over/8) + p.Over%8
	}
	return q
}

func TestTurnExamples(t *testing.T) { // P6.3
	want := drawn("....k...", "ppp..ppp", "........", "...pP...", "........", "........", "PP...PPP", "....K...")
	want.Over, want.Full, want.Side = sq("d6"), 13, api.White
	from := drawn("....k...", "pp...ppp", "........", "........", "...Pp...", "........", "PPP..PPP", "....K...")
	from.Over, from.Full, from.Side = sq("d3"), 13, api.Black
	if got := board.Turn(from); got != want {
		t.Errorf("turned: %v", got)
	}
	if got := board.Turn(want); got != from {
		t.Errorf("turned back: %v", got)
	}
	one := with(bare(), 'q', "b3")
	one.Half, one.Full = 9, 99
	wantOne := with(bare(), 'Q', "b6")
	wantOne.Side, wantOne.Half, wantOne.Full = api.Black, 9, 99
	if got := board.Turn(one); got != wantOne {
		t.Errorf("a lone queen turned: %v", got)
	}
}

func TestTurnCastle(t *testing.T) { // P6.3
	for c, want := range []api.Castle{0, 4, 8, 12, 1, 5, 9, 13, 2, 6, 10, 14, 3, 7, 11, 15} {
		p := castles()
		p.Castle = api.Castle(c)
		if got := board.Turn(p); got.Castle != want {
			t.Errorf("Castle %d turned: %d", c, got.Castle)
		}
	}
	for _, c := range []api.Castle{-1, -2, -4, -15, -16, 16, 17, 20, 31, 32, 256, 1 << 32, 1<<32 + 1, math.MaxInt, math.MinInt} {
		p := castles()
		p.Castle = c
		if got := board.Turn(p); got.Castle != c {
			t.Errorf("Castle %d turned: %d", c, got.Castle)
		}
	}
}

func TestTurnOver(t *testing.T) { // P6.3
	for rank, row := range []string{"a8 b8 c8 d8 e8 f8 g8 h8", "a7 b7 c7 d7 e7 f7 g7 h7", "a6 b6 c6 d6 e6 f6 g6 h6", "a5 b5 c5 d5 e5 f5 g5 h5",
		"a4 b4 c4 d4 e4 f4 g4 h4", "a3 b3 c3 d3 e3 f3 g3 h3", "a2 b2 c2 d2 e2 f2 g2 h2", "a1 b1 c1 d1 e1 f1 g1 h1"} {
		for file, to := range squares(row) {
			p := bare()
			p.Over = 8*rank + file
			p.Squares[p.Over] = piece('R')
			got := board.Turn(p)
			if got.Over != to || got.Squares[to] != piece('r') || len(board.Find(got, api.Piece{})) != 63 {
				t.Errorf("over %d turned: %v", p.Over, got)
			}
		}
	}
	for _, s := range noSquares() {
		p := castles()
		p.Over = s
		if got := board.Turn(p); got.Over != s {
			t.Errorf("over %d turned: %d", s, got.Over)
		}
	}
}

func TestTurnPieces(t *testing.T) { // P6.3
	for i := range letters {
		got := board.Turn(with(bare(), letters[i], "c2"))
		if got.Squares[sq("c7")] != piece(letters[(i+6)%12]) {
			t.Errorf("%c turned: %v", letters[i], got.Squares[sq("c7")])
		}
	}
	for _, x := range wrongPieces() {
		p := begin()
		p.Squares[sq("c2")], p.Squares[sq("h8")] = x, x
		want := modelTurn(begin())
		want.Squares[sq("c7")], want.Squares[sq("h1")] = x, x
		if got := board.Turn(p); got != want {
			t.Errorf("with %v turned: %v", x, got)
		}
	}
	if got := board.Turn(bare()); got.Squares != [64]api.Piece{} {
		t.Errorf("a bare board turned: %v", got)
	}
}

func TestTurnCounts(t *testing.T) { // P6.3
	for _, n := range []int{0, 1, -1, 1024, 1025, 16384, 16385, math.MaxInt, math.MinInt} {
		p := castles()
		p.Half, p.Full = n, -n
		if got := board.Turn(p); got.Half != n || got.Full != -n {
			t.Errorf("Half %d, Full %d turned: %d, %d", n, -n, got.Half, got.Full)
		}
	}
}

func TestTurnSides(t *testing.T) { // P6.3
	for _, s := range append(wrongSides(), api.White, api.Black) {
		p := castles()
		p.Side = s
		if got := board.Turn(p); got.Side != board.Other(s) {
			t.Errorf("the side %d turned: %d", s, got.Side)
		}
	}
}

// standing has any pieces that may be on all squares, right or not.
func standing(r *rand.Rand) api.Position {
	p := api.Position{Side: api.Side(r.Intn(2)), Castle: api.Castle(r.Intn(24) - 4), Over: r.Intn(80) - 8, Half: r.Intn(3000) - 100, Full: r.Intn(30000) - 100}
	all := append(rightPieces(), make([]api.Piece, 12)...)
	for s := range p.Squares {
		p.Squares[s] = all[r.Intn(len(all))]
	}
	return p
}

func TestTurnByModel(t *testing.T) { // P6.3, P6.4
	r := rand.New(rand.NewSource(63))
	for range 5000 {
		p := standing(r)
		got, want := board.Turn(p), modelTurn(p)
		if p.Castle < 0 || p.Castle > 15 {
			want.Castle = p.Castle
		}
		if got != want {
			t.Fatalf("%v turned: %v, want %v", p, got, want)
		}
		if back := board.Turn(got); back != p {
			t.Fatalf("%v turned twice: %v", p, back)
		}
	}
}

func TestTurnedTwice(t *testing.T) { // P6.4
	r := rand.New(rand.NewSource(64))
	right := 0
	for range 20000 {
		p := disturbed(r)
		q := board.Turn(p)
		if p.Side == 0 || p.Side == 1 {
			if board.Right(p) != board.Right(q) {
				t.Fatalf("right is %v of %v, else turned", board.Right(p), p)
			}
			if modelRight(p) {
				right++
			}
		}
	}
	if right < 2000 {
		t.Errorf("%d right ones try little", right)
	}
	for _, p := range append(rightOnes(), bare()) {
		if board.Turn(board.Turn(p)) != p {
			t.Errorf("%v turned twice: %v", p, board.Turn(board.Turn(p)))
		}
	}
}

func TestBeginTurned(t *testing.T) { // P6.4
	if !board.Right(board.Start()) {
		t.Error("the begin is not right")
	}
	want := board.Start()
	want.Side = api.Black
	if got := board.Turn(board.Start()); got != want || !board.Right(got) {
		t.Errorf("the begin turned: %v", got)
	}
}

func TestArgumentsStay(t *testing.T) { // R3
	given := append(make([]int, 0, 8), 20, 21, 20)
	behind := given[:8]
	before := slices.Clone(behind)
	p := begin()
	got, _ := board.Put(p, piece('Q'), given...)
	if !slices.Equal(behind, before) || p != begin() {
		t.Fatal("Put changed what it was given")
	}
	want := got
	given[0], given[1] = 63, 62
	if got != want || got.Squares[20] != piece('Q') || got.Squares[63] != piece('r') {
		t.Error("Put keeps its squares")
	}
	if _, errno := board.Put(p, piece('Q'), 64, 20); errno != api.ErrRange || p != begin() {
		t.Error("Put changed its position")
	}
	board.Turn(p)
	board.Find(p, piece('P'))
	board.Right(p)
	if p != begin() {
		t.Error("a position was changed")
	}
}

func TestAnswersAreNew(t *testing.T) { // R3, R4
	first, second := board.Find(begin(), piece('P')), board.Find(begin(), piece('P'))
	want := slices.Clone(first)
	for i := range first {
		first[i] = 99
	}
	_ = append(first, 99)
	if !slices.Equal(second, want) || !slices.Equal(board.Find(begin(), piece('P')), want) {
		t.Error("answers share memory")
	}
	p := board.Start()
	p.Squares = [64]api.Piece{}
	q := board.Empty()
	q.Squares[3] = piece('q')
	if board.Start() != begin() || board.Empty() != bare() {
		t.Error("a position that was handed out is not new")
	}
}
