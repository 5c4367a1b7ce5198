package sample

import (
	"strings"

	"zugzwang/api"
)

// To are moves from a square, by the names of those they lead to; with an equals sign behind, a pawn becomes each of four there.
func To(at, names string) []api.Move {
	var l []api.Move
	for _, name := range strings.Fields(names) {
		text := at + strings.TrimSuffix(name, "=")
		if strings.HasSuffix(name, "=") {
			l = append(l, Moves(text+"N "+text+"B "+text+"R "+text+"Q")...)
		} else {
			l = append(l, Move(text))
		}
	}
	return l
}

// Turned is a move of the position turned.
func Turned(m api.Move) api.Move {
	return api.Move{From: m.From ^ 56, To: m.To ^ 56, Becomes: m.Becomes}
}
