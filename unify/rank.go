package unify

import (
	"slices"

	"usufruct/api"
)

// gap is left between ranks. It has room for the nodes of a type; and for all variables, one within the other, so that none of them gets a rank that is beyond the store's high by a gap.
const gap = 2 * api.MaxVars

// visit is how far it is with a class that is gone through.
type visit int

const (
	unseen visit = iota
	open         // on the way to where it is now
	done
)

// stop is a class on the way, and which one within it is to be gone to next.
type stop struct {
	at   *class
	next int
}

// rankAll sees to it that ranks rise from each class to what stands within it, and says whether they can.
//
// They rose ahead of the equation. So what was not changed need not be looked at; and a way from a class back to itself is sure to go through one that ranks don't rise from. What is below these, down to the ends, may be put behind all others.
func (q *equation) rankAll() bool {
	var wrong []*class
	for _, x := range q.trail {
		if c := x.at.all(); !c.isBelow() {
			wrong = append(wrong, c)
		}
	}
	order, ok := below(wrong)
	if !ok {
		return false
	}
	for _, c := range slices.Backward(order) {
		q.store.high += gap
		c.rank = q.store.high
		c.rankEnds()
	}
	for _, x := range q.trail {
		x.at.all().rankEnds()
	}
	return true
}

// isBelow says whether the rank of c is below those of what stands within it, but for what has nothing within: that can have any greater one.
func (c *class) isBelow() bool {
	for in := range c.within() {
		if in.shape != nil && in.rank <= c.rank {
			return false
		}
	}
	return true
}

// rankEnds gives greater ranks to those within c that have nothing within. They are no greater than they must be, as what these come to have within, once that is known, is to have greater ones still.
func (c *class) rankEnds() {
	for in := range c.within() {
		if in.shape == nil {
			in.rank = max(in.rank, c.rank+1)
		}
	}
}

// below is l and all below them that has something within, each one behind what is within it; false, if one is within itself. The way is a list, as it may be too long for calls within calls.
func below(l []*class) (order []*class, ok bool) {
	seen := map[*class]visit{}
	var way []stop
	enter := func(c *class) {
		if c.shape != nil && seen[c] == unseen {
			seen[c] = open
			way = append(way, stop{at: c})
		}
	}
	for _, c := range l {
		enter(c)
		for len(way) > 0 {
			last := &way[len(way)-1]
			if last.next == len(last.at.shape.within) {
				seen[last.at] = done
				order = append(order, last.at)
				way = way[:len(way)-1]
				continue
			}
			in := last.at.shape.within[last.next].all()
			last.next++
			if seen[in] == open {
				return nil, false
			}
			enter(in)
		}
	}
	return order, true
}
