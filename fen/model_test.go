package fen_test

import (
	"regexp"
	"strconv"
	"strings"
	"testing"

	"zugzwang/api"
	"zugzwang/board"
	"zugzwang/fen"
	"zugzwang/sample"
)

// rows are a position's as one sees a board, a dot where nothing stands.
func rows(p api.Position) []string {
	var all []string
	for rank := 7; rank >= 0; rank-- {
		row := ""
		for file := range 8 {
			row += letter(p.Squares[8*rank+file])
		}
		all = append(all, row)
	}
	return all
}

// letter is a piece's, a dot of none, and nothing of what has none.
func letter(x api.Piece) string {
	for _, l := range []byte(".PNBRQKpnbrqk") {
		if sample.Piece(l) == x {
			return string(l)
		}
	}
	return ""
}

// modelText is the text of a position that has one, be it right or not. The tests' own model draws the board and puts the digits in.
func modelText(p api.Position) string {
	has := ""
	for n, letter := range []string{"K", "Q", "k", "q"} {
		if p.Castle>>n&1 == 1 {
			has += letter
		}
	}
	over := ""
	if p.Over >= 0 {
		over = string("abcdefgh"[p.Over%8]) + strconv.Itoa(p.Over/8+1)
	}
	return strings.Join([]string{squeezed(strings.Join(rows(p), "/")), "wb"[p.Side:][:1], orNone(has), orNone(over), strconv.Itoa(p.Half), strconv.Itoa(p.Full)}, " ")
}

func orNone(part string) string {
	if part == "" {
		return "-"
	}
	return part
}

// hasText says whether there is a text of a position's shape for a position, be it right or not.
func hasText(p api.Position) bool {
	for _, x := range p.Squares {
		if letter(x) == "" {
			return false
		}
	}
	return p.Side>>1 == 0 && p.Castle>>4 == 0 && p.Over >= -1 && p.Over < 64 && isNumber(p.Half) && isNumber(p.Full)
}

func isNumber(n int) bool { return n >= 0 && n < 1000000 }

// squeezed has a digit for as many dots as stand in a row.
func squeezed(ranks string) string {
	for n := 8; n > 0; n-- {
		ranks = strings.ReplaceAll(ranks, strings.Repeat(".", n), strconv.Itoa(n))
	}
	return ranks
}

// dotted has a dot for each square on which nothing stands.
func dotted(ranks string) string {
	for n := 8; n > 0; n-- {
		ranks = strings.ReplaceAll(ranks, strconv.Itoa(n), strings.Repeat(".", n))
	}
	return ranks
}

// modelPosition is the position of a text that has the shape.
func modelPosition(text string) api.Position {
	parts := strings.Split(text, " ")
	p := sample.Board(strings.Split(dotted(parts[0]), "/")...)
	if parts[1] == "b" {
		p.Side = api.Black
	}
	for n, letter := range []string{"K", "Q", "k", "q"} {
		if strings.Contains(parts[2], letter) {
			p.Castle |= 1 << n
		}
	}
	if parts[3] != "-" {
		p.Over = sample.Square(parts[3])
	}
	p.Half, _ = strconv.Atoi(parts[4])
	p.Full, _ = strconv.Atoi(parts[5])
	return p
}

var (
	sixParts = regexp.MustCompile(`^[PNBRQKpnbrqk1-8/]+ [wb] (-|K?Q?k?q?) (-|[a-h][1-8]) (0|[1-9][0-9]{0,5}) (0|[1-9][0-9]{0,5})$`)
	gaps     = regexp.MustCompile(`[1-8][1-8]`)
)

// isShape says whether a text has the shape of a position's.
func isShape(text string) bool {
	if !sixParts.MatchString(text) {
		return false
	}
	ranks, rest, _ := strings.Cut(text, " ")
	all := strings.Split(dotted(ranks), "/")
	for _, rank := range all {
		if len(rank) != 8 {
			return false
		}
	}
	return len(all) == 8 && !gaps.MatchString(ranks) && rest[2] != ' '
}

// goesOn says whether some text of the shape begins so: it has some more put behind, as long as what is missing.
func goesOn(begin string) bool {
	if strings.Contains(begin, " ") {
		for _, more := range []string{"", "1", " 1", "0 1", " 0 1", "- 0 1", " - 0 1", "- - 0 1", " - - 0 1", "w - - 0 1", "3 0 1"} {
			if isShape(begin + more) {
				return true
			}
		}
		return false
	}
	ahead := strings.Count(begin, "/")
	last := dotted(begin[strings.LastIndex(begin, "/")+1:])
	return ahead < 8 && len(last) <= 8 && isShape(begin+strings.Repeat("P", 8-len(last))+strings.Repeat("/8", 7-ahead)+" w - - 0 1")
}

// asked counts what texts were.
type asked struct {
	right, wrong, none, ended int
}

// ask holds what Parse answers of a text against the model.
func (n *asked) ask(t *testing.T, text string) {
	t.Helper()
	if len(text) <= api.MaxFen && !isShape(text) {
		n.noShape(t, text)
		return
	}
	want, errno := api.Position{}, api.ErrLong
	if len(text) <= api.MaxFen {
		want, errno = modelPosition(text), api.OK
		if !board.Right(want) {
			want, errno = api.Position{}, api.ErrArg
		}
	}
	parses(t, "by the model", text, want, 0, errno)
	if errno == api.OK {
		shows(t, "by the model", want, text)
		n.right++
	} else {
		n.wrong++
	}
}

func (n *asked) noShape(t *testing.T, text string) {
	t.Helper()
	p, at, errno := fen.Parse(text)
	if p != (api.Position{}) || errno != api.ErrSyntax {
		t.Errorf("%q: %d, %d, %v", text, at, errno, p)
	}
	if at < 0 || at > len(text) || !goesOn(text[:at]) || at < len(text) && goesOn(text[:at+1]) {
		t.Errorf("%q can not stand from %d on", text, at)
	}
	n.none++
	if at == len(text) {
		n.ended++
	}
}

// TestModel holds the model itself against texts that were looked through by hand.
func TestModel(t *testing.T) {
	for _, text := range []string{begin, kings + rest, kings + " b Kq h8 999999 0", "P7/1P6/2P5/3P4/4P3/5P2/6P1/7P b - a1 0 100000", "1k1k1k1k/kkkkkkkk/8/8/8/8/8/8 w Qk - 0 0"} {
		if !isShape(text) || modelText(modelPosition(text)) != text {
			t.Errorf("%q has no shape, or is %q", text, modelText(modelPosition(text)))
		}
		for n := range len(text) {
			if !goesOn(text[:n]) {
				t.Errorf("%q does not go on", text[:n])
			}
		}
	}
	for _, text := range []string{"", kings, kings + " w", kings + " w  - 0 1", kings + " w - e 0 1", kings + " w - - 0 1 ", kings + " w - - 00 1", kings + " w - - 0 1000000", "4k4/8/8/8/8/8/8/8" + rest, "44/8/8/8/8/8/8/8" + rest, "8/8/8/8/8/8/8" + rest, "8/8/8/8/8/8/8/8/8" + rest, "8/8/8/8/8/8/8/8/" + rest} {
		if isShape(text) {
			t.Errorf("%q has the shape", text)
		}
	}
	for _, text := range []string{" ", "/", "0", "9", "44", "4k4", "8/8/8/8/8/8/8/8/", "8/8/8/8/8/8/8 ", kings + "  ", kings + " w QK", kings + " w KK", kings + " w -K", kings + " w - - 01", kings + " w - - 1234567", kings + " w - - 0 1 "} {
		if goesOn(text) {
			t.Errorf("%q goes on", text)
		}
	}
}
