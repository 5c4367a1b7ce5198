package game_test

import (
	"math/rand"
	"slices"
	"testing"

	"zugzwang/again"
	"zugzwang/api"
	"zugzwang/attack"
	"zugzwang/board"
	"zugzwang/dead"
	"zugzwang/game"
	"zugzwang/legal"
	"zugzwang/sample"
)

// model is a game that is told anew each time: from all its positions, the first one ahead, with their keys, its moves, and what ended it by a claim or a stop.
type model struct {
	all    []api.Position
	keys   []string
	moves  []api.Move
	result api.Result
	reason api.Reason
}

func modelFrom(p api.Position) model {
	return model{all: []api.Position{p}, keys: []string{again.Key(p)}}
}

// upTo is the model as it was behind its first n moves.
func (m *model) upTo(n int) *model {
	return &model{all: m.all[:n+1], keys: m.keys[:n+1], moves: m.moves[:n]}
}

func (m *model) now() api.Position { return m.all[len(m.all)-1] }

func (m *model) came() int {
	times := 0
	for _, key := range m.keys {
		if key == m.keys[len(m.keys)-1] {
			times++
		}
	}
	return times
}

func wonByOther(p api.Position) api.Result {
	return []api.Result{api.BlackWins, api.WhiteWins}[p.Side]
}

func (m *model) stands() (api.Result, api.Reason) {
	p := m.now()
	stuck := len(legal.Moves(p)) == 0
	switch {
	case m.reason != api.NoReason:
		return m.result, m.reason
	case stuck && attack.Check(p, p.Side):
		return wonByOther(p), api.Mate
	case stuck:
		return api.Drawn, api.Stalemate
	case dead.Is(p):
		return api.Drawn, api.Dead
	case m.came() > 4:
		return api.Drawn, api.Fivefold
	case p.Half > 149:
		return api.Drawn, api.Seventy
	}
	return api.Open, api.NoReason
}

func (m *model) isOpen() bool {
	_, why := m.stands()
	return why == api.NoReason
}

func (m *model) look() look {
	l := look{now: m.now(), moves: m.moves}
	l.result, l.reason = m.stands()
	l.threefold = l.reason == api.NoReason && m.came() > 2
	l.fifty = l.reason == api.NoReason && m.now().Half > 99
	return l
}

func (m *model) may(why api.Reason) bool {
	l := m.look()
	return why == api.Threefold && l.threefold || why == api.Fifty && l.fifty
}

func (m *model) play(l []api.Move) api.Errno {
	for _, x := range l {
		if !m.isOpen() {
			return api.ErrOver
		}
		p, errno := legal.Play(m.now(), x)
		if errno != api.OK {
			return api.ErrMove
		}
		m.all, m.keys, m.moves = append(m.all, p), append(m.keys, again.Key(p)), append(m.moves, x)
	}
	return api.OK
}

func (m *model) claim(why api.Reason) api.Errno {
	switch {
	case why != api.Threefold && why != api.Fifty:
		return api.ErrArg
	case !m.isOpen():
		return api.ErrOver
	case !m.may(why):
		return api.ErrMove
	}
	m.result, m.reason = api.Drawn, why
	return api.OK
}

func (m *model) stop(why api.Reason) api.Errno {
	result := wonByOther(m.now())
	switch why {
	case api.Agreed:
		result = api.Drawn
	case api.Resigned, api.BadSeal:
	default:
		return api.ErrArg
	}
	if !m.isOpen() {
		return api.ErrOver
	}
	m.result, m.reason = result, why
	return api.OK
}

// walk is a game with its model, and those that it was a copy of, with what they told then.
type walk struct {
	model
	g      *game.Game
	apart  []*game.Game
	told   []look
	errors map[api.Errno]int
}

// next is a move: often the one back from the last that its side made, seldom one that is not legal.
func (w *walk) next(d *rand.Rand, ahead []api.Move) api.Move {
	p, errno := legal.Play(w.now(), ahead...)
	all := legal.Moves(p)
	if errno != api.OK || len(all) == 0 || d.Intn(30) == 0 {
		return api.Move{From: d.Intn(66) - 1, To: d.Intn(66) - 1, Becomes: api.Kind(d.Intn(9) - 1)}
	}
	made := append(slices.Clone(w.moves), ahead...)
	if len(made) > 1 && d.Intn(3) > 0 {
		back := made[len(made)-2]
		back.From, back.To = back.To, back.From
		if legal.Is(p, back) {
			return back
		}
	}
	return all[d.Intn(len(all))]
}

func (w *walk) row(d *rand.Rand) []api.Move {
	var l []api.Move
	for range d.Intn(5) {
		l = append(l, w.next(d, l))
	}
	return l
}

func (w *walk) step(t *testing.T, d *rand.Rand) {
	t.Helper()
	why := api.Reason(d.Intn(13) - 1)
	got, want := api.OK, api.OK
	switch d.Intn(12) {
	case 0:
		why = []api.Reason{why, api.Threefold, api.Fifty}[d.Intn(3)]
		if w.may(why) && d.Intn(3) > 0 {
			break
		}
		got, want = w.g.Claim(why), w.claim(why)
	case 1:
		if d.Intn(6) > 0 && why >= api.Agreed {
			why = api.Threefold
		}
		got, want = w.g.Stop(why), w.stop(why)
	case 2:
		w.apart, w.told = append(w.apart, w.g), append(w.told, lookAt(w.g))
		w.g = w.g.Copy()
	case 3:
		for i := range w.g.Moves() {
			w.g.Moves()[i] = api.Move{}
		}
	default:
		l := w.row(d)
		was := slices.Clone(l)
		got, want = w.g.Play(l...), w.play(l)
		if !slices.Equal(l, was) {
			t.Errorf("%v became %v", was, l)
		}
		clear(l)
	}
	answers(t, "by the model", got, want)
	tells(t, "by the model", w.g, w.look())
	w.errors[got]++
}

// playedAnew has the moves put in once more, in rows cut anywhere: as far as the game ended by itself all is the same.
func (w *walk) playedAnew(t *testing.T, d *rand.Rand) {
	t.Helper()
	want := w.upTo(len(w.moves)).look()
	for range 2 {
		g := from(t, w.all[0])
		for made := 0; made < len(w.moves); {
			cut := made + d.Intn(len(w.moves)-made+1)
			answers(t, "played anew", g.Play(w.moves[made:cut]...), api.OK)
			tells(t, "played anew, on the way", g, w.upTo(cut).look())
			made = cut
		}
		tells(t, "played anew", g, want)
	}
}

// anyStart is a position that may be played on: with many pieces or few, at times near mate and stalemate, often with counts that are near a limit.
func anyStart(d *rand.Rand) api.Position {
	p := sample.AnyRight(d.Intn)
	if d.Intn(3) > 0 {
		p = sample.Bare()
		for _, letter := range []byte{'K', 'k', "QRBNPqrbnp"[d.Intn(10)], "QRrBNPqbnp."[d.Intn(11)]} {
			p.Squares[d.Intn(64)] = sample.Piece(letter)
		}
		p.Side, p.Half = api.Side(d.Intn(2)), d.Intn(30)
	}
	if d.Intn(12) == 0 {
		p = sample.Drawn("h8k " + []string{"f6K a7Q", "g6K a1R", "g6K b4B b2P", "b6K g1R", "f7K b1Q"}[d.Intn(5)])
	}
	if p.Over == api.NoSquare && d.Intn(2) == 0 {
		p.Half = []int{90, 98, 134, 140, 146}[d.Intn(5)] + d.Intn(5)
	}
	if d.Intn(20) == 0 {
		p.Full = api.MaxFull - d.Intn(4)
	}
	if !legal.Position(p) {
		return anyStart(d)
	}
	return p
}

// TestByModel has games from all sorts of positions, and what is done with them at random, up to their end and behind it.
func TestByModel(t *testing.T) { // P14.1 to P14.5
	d := rand.New(rand.NewSource(141))
	reasons, errors, moves := map[api.Reason]int{}, map[api.Errno]int{}, 0
	for range 400 {
		p := anyStart(d)
		w := &walk{model: modelFrom(p), g: from(t, p), errors: errors}
		tells(t, "at first", w.g, w.look())
		for range 60 {
			ahead := w.g.Moves()
			isOpen := w.isOpen()
			was := lookAt(w.g)
			w.step(t, d)
			if now := w.g.Moves(); len(now) < len(ahead) || !slices.Equal(now[:len(ahead)], ahead) {
				t.Fatalf("%v, then %v", ahead, now)
			}
			if !isOpen {
				tells(t, "behind the end", w.g, was)
			}
			if t.Failed() {
				t.FailNow()
			}
			if !isOpen && d.Intn(6) == 0 {
				break
			}
		}
		for i, g := range w.apart {
			tells(t, "a game that went apart", g, w.told[i])
		}
		moves += len(w.moves)
		_, why := w.stands()
		reasons[why]++
		w.playedAnew(t, d)
	}
	for _, why := range sample.Reasons() {
		if reasons[why] < 4 {
			t.Errorf("%d ended by %d: that tries little", reasons[why], why)
		}
	}
	for _, errno := range []api.Errno{api.OK, api.ErrArg, api.ErrOver, api.ErrMove} {
		if errors[errno] < 100 {
			t.Errorf("%d answers %d: that tries little", errors[errno], errno)
		}
	}
	if moves < 8000 {
		t.Errorf("%d moves: that tries little", moves)
	}
}

// TestTurned has games beside those of their moves turned: all is told turned, but for Full.
func TestTurned(t *testing.T) { // P14.2, P14.3
	d := rand.New(rand.NewSource(142))
	for range 60 {
		p := anyStart(d)
		g, h := from(t, p), from(t, board.Turn(p))
		w := &walk{model: modelFrom(p)}
		for range 60 {
			m := w.next(d, nil)
			if g.Play(m) != h.Play(sample.Turned(m)) {
				t.Fatalf("%v is made by one side alone, of %v", m, g.Now())
			}
			if w.isOpen() {
				w.play([]api.Move{m})
			}
			now := h.Now()
			now.Full = g.Now().Full
			a, b := lookAt(g), lookAt(h)
			if now != board.Turn(a.now) || b.result != sample.TurnedResult(a.result) || b.reason != a.reason || b.threefold != a.threefold || b.fifty != a.fifty {
				t.Fatalf("%+v, turned %+v", a, b)
			}
		}
	}
}
