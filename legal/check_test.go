package legal_test

import (
	"testing"

	"zugzwang/sample"
)

func TestInCheck(t *testing.T) { // P10.1
	allGo(t, "by a rook", drawn("e1K d3R f3N h5B a7k e8r"),
		"e1: d1 f1 d2 f2", "d3: e3", "f3: e5", "h5: e8")
	allGo(t, "by a bishop", drawn("e1K c1B g1N h7Q c2P a3P a8k b4b"),
		"e1: d1 f1 e2 f2", "c1: d2", "c2: c3", "a3: b4")
	allGo(t, "by a queen beside it", drawn("e1K d1Q a2B h8k e2q e8r"),
		"d1: e2")
	allGo(t, "by a knight", drawn("e1K c2P e2P h7Q a8k d3n"),
		"e1: d1 f1 d2", "c2: d3", "e2: d3", "h7: d3")
	allGo(t, "by a pawn", drawn("e4K c4P h1R a8k d5p"),
		"c4: d5", "e4: d3 e3 f3 d4 f4 d5 e5 f5")
	allGo(t, "by a pawn that a rook guards", drawn("e4K c4P a5R h8k d5p d8r"),
		"c4: d5", "e4: d3 e3 f3 d4 f4 e5 f5", "a5: d5")
	allGo(t, "of black, by a rook", sample.Black(drawn("e8k d6r f6n h4b a2K e1R")),
		"e1:", "h4: e1", "d6: e6", "f6: e4", "e8: d7 f7 d8 f8")
	allGo(t, "of black, by a pawn", sample.Black(drawn("e5k c5p h8r g1K d4P")),
		"d4:", "e5: d4 e4 f4 d5 f5 d6 e6 f6", "c5: d4")
}

// TestInCheckByTwo has a king attacked by two: what takes the one, or stands in its way, is of no use.
func TestInCheckByTwo(t *testing.T) { // P10.1
	allGo(t, "by a rook and a bishop", drawn("e1K d1Q a4R c2P h8k e8r b4b"),
		"e1: f1 f2")
	allGo(t, "by a rook and a knight", drawn("e1K b1N g2Q c2P h8k e8r d3n"),
		"e1: d1 f1 d2")
	allGo(t, "by a knight and a queen, that may be taken", drawn("a1K a2q b3n h2Q c8k"),
		"a1: a2")
	allGo(t, "of black", sample.Black(drawn("e8k d8q a5r c7p h1K e1R b5B")),
		"e8: f7 f8")
}

func TestPinned(t *testing.T) { // P10.1
	for _, c := range []struct{ what, puts, at, names string }{
		{"a rook on the file", "e1K e3R e8r a8k", "e3", "e2 e4 e5 e6 e7 e8"},
		{"a queen on the file", "e1K e3Q e8q a8k", "e3", "e2 e4 e5 e6 e7 e8"},
		{"a knight on the file", "e1K e3N e8r a8k", "e3", ""},
		{"a bishop on the file", "e1K e3B e8r a8k", "e3", ""},
		{"a pawn on the file", "e1K e2P e8r a8k d3p f3p", "e2", "e3 e4"},
		{"a pawn on the file, ahead of the end", "e1K e7P e8r a8k d8n", "e7", ""},
		{"not pinned, as something else stands between", "e1K e3N e5p e8r a8k", "e3", "d1 f1 c2 g2 c4 g4 d5 f5"},
		{"not pinned, by what goes another way", "e1K e3N e8b a8k", "e3", "d1 f1 c2 g2 c4 g4 d5 f5"},
		{"not pinned, by its own", "e1K e3N e8R b7k", "e3", "d1 f1 c2 g2 c4 g4 d5 f5"},
		{"not pinned, by a king", "e1K e2N e3k", "e2", "c1 g1 c3 g3 d4 f4"},
		{"a rook on the rank", "a4K d4R h4r h8k", "d4", "b4 c4 e4 f4 g4 h4"},
		{"a queen on the rank", "a4K d4Q h4r h7k", "d4", "b4 c4 e4 f4 g4 h4"},
		{"a queen on the rank, the other way", "h4K d4Q b4r g8k", "d4", "b4 c4 e4 f4 g4"},
		{"a knight on the rank", "a4K d4N h4q h8k", "d4", ""},
		{"a bishop on the rank", "a4K d4B h4q g8k", "d4", ""},
		{"a pawn on the rank", "a2K d2P h2q h8k c3p e3p", "d2", ""},
		{"a bishop up to the right", "a1K c3B g7b a8k", "c3", "b2 d4 e5 f6 g7"},
		{"a queen up to the right", "a1K c3Q g7q a8k", "c3", "b2 d4 e5 f6 g7"},
		{"a rook up to the right", "a1K c3R g7b a8k", "c3", ""},
		{"a knight up to the right", "a1K c3N g7b a8k", "c3", ""},
		{"a pawn up to the right", "a1K c3P g7b a8k b4p", "c3", ""},
		{"a pawn up to the right, that takes", "a1K c3P d4q a8k b4p", "c3", "d4"},
		{"a pawn up to the right, that takes at the end", "f6K g7P h8b a8k f8n", "g7", "h8="},
		{"a bishop down to the left", "h8K f6B b2b a8k", "f6", "b2 c3 d4 e5 g7"},
		{"a bishop up to the left", "h1K f3B b7b a6k", "f3", "g2 e4 d5 c6 b7"},
		{"a queen up to the left", "h1K f3Q b7b a6k", "f3", "g2 e4 d5 c6 b7"},
		{"a knight up to the left", "h1K f3N b7b a6k", "f3", ""},
		{"a rook up to the left", "h1K f3R b7q a6k", "f3", ""},
		{"a pawn up to the left", "h1K f3P e4b a6k g4p", "f3", "e4"},
		{"a bishop down to the right", "a8K c6B g2q h7k", "c6", "g2 f3 e4 d5 b7"},
	} {
		goes(t, "pinned: "+c.what, drawn(c.puts), c.at, c.names)
	}
	goes(t, "pinned: black's rook", sample.Black(drawn("e8k e6r e1R a1K")), "e6", "e1 e2 e3 e4 e5 e7")
	goes(t, "pinned: black's knight", sample.Black(drawn("e8k e6n e1R a1K")), "e6", "")
	goes(t, "pinned: black's pawn", sample.Black(drawn("e8k d7p c6B a1K e6N")), "d7", "c6")
	goes(t, "pinned: of two none", drawn("e1K e3N e5N e8r a8k"), "e3", "d1 f1 c2 g2 c4 g4 d5 f5")
	// What is pinned is of no help against another check.
	allGo(t, "pinned, and in check", drawn("e1K e3R e8r h4b a8k d1Q d2P f1B"),
		"e1: e2")
}

func TestKingGoes(t *testing.T) { // P10.1
	for _, c := range []struct{ what, puts, at, names string }{
		{"steps away along a file", "e4K e8r a1k", "e4", "d3 f3 d4 f4 d5 f5"},
		{"steps away along a rank", "e4K a4q h8k", "e4", "d3 e3 f3 d5 e5 f5"},
		{"steps away along a diagonal", "e4K h7b a8k", "e4", "e3 f3 d4 f4 d5 e5"},
		{"takes what attacks it", "e4K e5r a8k", "e4", "d3 f3 d4 f4 e5"},
		{"may not take what is guarded by a rook", "e4K e5r e8r a8k", "e4", "d3 f3 d4 f4"},
		{"may not take what is guarded by a knight", "e4K e5r d7n a8k", "e4", "d3 f3 d4 f4"},
		{"may not take what is guarded by a pawn", "e4K e5r d6p a8k", "e4", "d3 f3 d4 f4"},
		{"may not take what is guarded by a king", "e4K e5r e6k", "e4", "d3 f3 d4 f4"},
		{"takes what is guarded by nothing, though something stands near", "e4K e5r e7p a8k", "e4", "d3 f3 d4 f4 e5"},
		{"may not go beside the other king", "e4K e6k", "e4", "d3 e3 f3 d4 f4"},
		{"may not go beside the other king, on a slant", "e4K g6k", "e4", "d3 e3 f3 d4 f4 d5 e5"},
		{"may not go beside the other king, in the corner", "a1K a3k h1R", "a1", "b1"},
		{"goes to where a pawn could go, not take", "e4K e6p a8k", "e4", "d3 e3 f3 d4 f4 e5"},
		{"may not go to where something that is pinned attacks", "e4K f6n f8k f1R", "e4", "d3 e3 f3 d4 f4 e5 f5"},
		{"may not take what is guarded from afar", "e4K d3p b1b a8k", "e4", "e3 f3 d4 f4 d5 e5 f5"},
	} {
		goes(t, "the king "+c.what, drawn(c.puts), c.at, c.names)
	}
}
