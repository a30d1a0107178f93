package extract

import (
	"bytes"

	"escritoire/api"
)

// heads are of one part of a list: the head that is told of it, and its own.
type heads struct{ told, own api.Digest }

// climb is a way up from a part of a list to all of it, each part being a half of the next one; of the other halves heads are told.
type climb struct {
	hash  Hash
	list  [][]byte
	ahead []api.Digest // what is told of the halves that stand ahead of the way, the lowest first
	pair  Pair         // the first two texts on the way that are unlike and have one hash
	found bool
}

// up goes up from the part that begins with the leaf from, and has the heads low, and answers the heads of the whole list. told are the heads that are told of the other halves, the lowest first.
func (c *climb) up(from int, low heads, told []api.Digest) heads {
	var up func(first, behind int, told []api.Digest) heads
	up = func(first, behind int, told []api.Digest) heads {
		if len(told) == 0 {
			return low
		}
		lower, other := told[:len(told)-1], told[len(told)-1]
		middle := first + split(behind-first)
		if from < middle {
			a := up(first, middle, lower)
			return c.join(a, heads{other, c.hash.head(c.list[middle:behind])})
		}
		b := up(middle, behind, lower)
		c.ahead = append(c.ahead, other)
		return c.join(heads{other, c.hash.head(c.list[first:middle])}, b)
	}
	return up(0, len(c.list), told)
}

// join answers the heads of a part whose halves have the heads a and b.
func (c *climb) join(a, b heads) heads {
	return c.meet(node(a.told, b.told), node(a.own, b.own))
}

// meet answers the heads of a part of which these texts are told, and its own; it keeps them, if they are the first pair on the way.
func (c *climb) meet(told, own []byte) heads {
	h := heads{c.hash.sum(told), c.hash.sum(own)}
	if !c.found && h.told == h.own && !bytes.Equal(told, own) {
		c.pair, c.found = Pair{told, own}, true
	}
	return h
}

// steps is how many steps up there are, in a list of n, to all of it from its part from from on ahead of to.
func steps(n, from, to int) int {
	out := 0
	for first, behind := 0, n; first != from || behind != to; out++ {
		if middle := first + split(behind-first); from < middle {
			behind = middle
		} else {
			first = middle
		}
	}
	return out
}
