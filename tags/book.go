package tags

import (
	"bytes"
	"maps"

	"zugzwang/api"
)

const (
	octetCount = 8
	octetBits  = 8
)

type kind int

const (
	sum kind = iota
	underKey
	draw
)

// thing is what a table can be asked. Key and bytes stay apart: run together, they would be those of another key as well.
type thing struct {
	kind      kind
	key, text string
	number    int
}

func sumOf(rows [][]byte) thing {
	return thing{kind: sum, text: joined(rows)}
}

func macOf(key []byte, rows [][]byte) thing {
	return thing{kind: underKey, key: string(key), text: joined(rows)}
}

func drawOf(k int) thing {
	return thing{kind: draw, number: k}
}

func joined(rows [][]byte) string {
	return string(bytes.Join(rows, nil))
}

// book has the number of each thing that was asked. A real maker's stays empty.
type book struct {
	numbers map[thing]int
}

func emptyBook() book {
	return book{numbers: map[thing]int{}}
}

func (b book) tell(t thing) api.Tag {
	n, asked := b.numbers[t]
	if !asked {
		n = len(b.numbers)
		b.numbers[t] = n
	}
	return numbered(uint64(n))
}

func (b book) size() int { return len(b.numbers) }

// told needs no look at the things: the numbers below the size are those that were told.
func (b book) told(t api.Tag) bool {
	n := numberIn(t)
	return n < uint64(b.size()) && t == numbered(n)
}

func (b book) copied() book {
	return book{numbers: maps.Clone(b.numbers)}
}

// numbered is a table's tag: the mark, the number, and noughts.
func numbered(n uint64) api.Tag {
	var t api.Tag
	copy(t[:], mark)
	copy(t[len(mark):], octets(n))
	return t
}

func numberIn(t api.Tag) uint64 {
	var n uint64
	for _, octet := range t[len(mark) : len(mark)+octetCount] {
		n = n<<octetBits | uint64(octet)
	}
	return n
}

// octets are a number's bits, the highest first.
func octets(n uint64) []byte {
	row := make([]byte, octetCount)
	for i := range row {
		row[octetCount-1-i] = byte(n >> (octetBits * i))
	}
	return row
}
