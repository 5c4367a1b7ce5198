package fen

import "slices"

// place is a text, and how many of its bytes are read.
type place struct {
	text string
	at   int
}

func (p *place) ends() bool { return p.at == len(p.text) }

// next is the byte that is not yet read; at the end 0, which is in no position's text.
func (p *place) next() byte {
	if p.ends() {
		return 0
	}
	return p.text[p.at]
}

// one reads a byte, if it is one of some letters: which of them, from 0 on.
func (p *place) one(of ...byte) (int, bool) {
	n := slices.Index(of, p.next())
	if n < 0 {
		return 0, false
	}
	p.at++
	return n, true
}

// skip reads a byte, if it is one of some letters, whichever.
func (p *place) skip(of ...byte) bool {
	_, is := p.one(of...)
	return is
}
