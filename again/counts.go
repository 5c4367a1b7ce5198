package again

import "maps"

// counts has how often each text came. How often the one that came most did is kept, too: to look through all for it behind each move of a long game would be slow.
type counts struct {
	times map[string]int
	most  int
}

func noCounts() counts {
	return counts{times: map[string]int{}}
}

func (c *counts) oneMore(text string) int {
	n := c.times[text] + 1
	c.times[text] = n
	c.most = max(c.most, n)
	return n
}

func (c *counts) of(text string) int { return c.times[text] }

func (c *counts) greatest() int { return c.most }

func (c *counts) copied() counts {
	return counts{times: maps.Clone(c.times), most: c.most}
}
