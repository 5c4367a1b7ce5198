package bits

// octets are bytes that come from words, four of each, the highest first.
type octets struct {
	all []byte
}

// whole is whether there is no word of which only some bytes are there.
func (o *octets) whole() bool {
	return len(o.all)%wordOctets == 0
}

func (o *octets) count() int {
	return len(o.all) / wordOctets
}

func (o *octets) put(x uint32) {
	for i := range wordOctets {
		o.all = append(o.all, byte(x>>(places-octetPlaces*(i+1))))
	}
}

// word is the word whose bytes stand behind those of n others.
func (o *octets) word(n int) uint32 {
	var x uint32
	for i := range wordOctets {
		x = x<<octetPlaces | uint32(o.all[wordOctets*n+i])
	}
	return x
}

// row is a row of words, kept as their bytes.
type row struct {
	octets
}

func (r *row) write(words []uint32) {
	for _, x := range words {
		r.put(x)
	}
}

func (r *row) read() []uint32 {
	words := make([]uint32, r.count())
	for n := range words {
		words[n] = r.word(n)
	}
	return words
}
