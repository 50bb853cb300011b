package elim

import (
	"iter"
	"slices"

	"usufruct/api"
)

const (
	alone = -1 // stands where an inequality would have the variable R, if it has none
	none  = -1 // ends a row of arrows
)

// set is places of variables that are kept, and the wall, a bit each.
type set [wall/64 + 1]uint64

// wall stands in a set for what can't be: a multiplicity that is handed on to where it may not be.
const wall = api.MaxKeep

func (s *set) add(i int) { s[i/64] |= 1 << (i % 64) }

func (s *set) join(t set) {
	for i, bits := range t {
		s[i] |= bits
	}
}

func (s set) has(i int) bool { return s[i/64]>>(i%64)&1 == 1 }

// arrows go from variables to variables.
type arrows struct {
	first []int // at a variable, the first arrow from there
	next  []int // at an arrow, the next one from the same variable
	to    []int
}

func newArrows(n, count int) arrows {
	return arrows{slices.Repeat([]int{none}, n), make([]int, 0, count), make([]int, 0, count)}
}

func (a *arrows) add(v, w int) {
	a.next, a.to = append(a.next, a.first[v]), append(a.to, w)
	a.first[v] = len(a.to) - 1
}

// from goes over where the arrows from v lead.
func (a arrows) from(v int) iter.Seq[int] {
	return func(yield func(int) bool) {
		for i := a.first[v]; i != none; i = a.next[i] {
			if !yield(a.to[i]) {
				return
			}
		}
	}
}

// stop is a variable on the way, and the next arrow from there that is to be tried.
type stop struct{ v, arrow int }

// reached goes over v and what is reached from it through variables of which open says yes. Each one comes behind all that is reached from there, but for what stands on the way to it. Open is to say yes of a variable once at most, or a ring would be gone round without end. The way is a list, as it may be too long for calls within calls.
func (a arrows) reached(v int, open func(int) bool) iter.Seq[int] {
	return func(yield func(int) bool) {
		var way []stop
		enter := func(v int) {
			if open(v) {
				way = append(way, stop{v, a.first[v]})
			}
		}
		enter(v)
		for len(way) > 0 {
			last := &way[len(way)-1]
			if i := last.arrow; i != none {
				last.arrow = a.next[i]
				enter(a.to[i])
				continue
			}
			v := last.v
			way = way[:len(way)-1]
			if !yield(v) {
				return
			}
		}
	}
}

// reach tells for each one of keep to which of them, itself among these, it hands m on, and whether to the wall.
//
// All variables of a ring reach the same, and each ring is gone through behind all that it reaches: so the time is in proportion to variables and inequalities, however many are kept.
func reach(n int, l []api.Ineq, keep []int, m api.Mult) []set {
	on, back := newArrows(n, len(l)), newArrows(n, len(l))
	got := make([]set, n)
	for _, x := range l {
		switch {
		case x.L.C != 0 || x.C >= m:
			// It hands on no m of a variable.
		case x.R == alone:
			got[x.L.V].add(wall)
		default:
			on.add(x.L.V, x.R)
			back.add(x.R, x.L.V)
		}
	}
	for i, v := range keep {
		got[v].add(i)
	}
	for _, ring := range slices.Backward(rings(on, back, keep)) {
		var s set
		for _, v := range ring {
			s.join(got[v])
			for w := range on.from(v) {
				s.join(got[w])
			}
		}
		for _, v := range ring {
			got[v] = s
		}
	}
	var told []set
	for _, v := range keep {
		told = append(told, got[v])
	}
	return told
}

// rings parts what is reached by on from keep: what is reached from one another stands together, and ahead of all else that is reached from there. Back is on the other way round.
func rings(on, back arrows, keep []int) [][]int {
	seen := make([]bool, len(on.first))
	unseen := func(v int) bool {
		was := seen[v]
		seen[v] = true
		return !was
	}
	var order []int
	for _, v := range keep {
		for w := range on.reached(v, unseen) {
			order = append(order, w)
		}
	}
	unparted := func(v int) bool {
		was := seen[v]
		seen[v] = false
		return was
	}
	var all [][]int
	for _, v := range slices.Backward(order) {
		var ring []int
		for w := range back.reached(v, unparted) {
			ring = append(ring, w)
		}
		if len(ring) > 0 {
			all = append(all, ring)
		}
	}
	return all
}
