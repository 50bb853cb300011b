package unify

import (
	"cmp"
	"slices"
)

// holdsMore says whether something right within c, which stands for itself, was not told its level yet.
func (c *class) holdsMore() bool {
	for in := range c.within() {
		if in.level > c.level {
			return true
		}
	}
	return false
}

// noteLate notes which levels the equation left to be told. They are told when it is asked for them, and no earlier: else lower and lower ones might go the same long way.
func (q *equation) noteLate() {
	for _, x := range q.trail {
		c := x.at.all()
		if !c.late && c.holdsMore() {
			c.late = true
			q.store.late = append(q.store.late, c)
		}
	}
}

// tellLevels tells levels to all that stands within. The lowest ones go first, so that none is told a level twice.
func (s *Store) tellLevels() {
	var todo []*class
	for _, c := range s.late {
		c.late = false
		todo = append(todo, c.all())
	}
	s.late = nil
	slices.SortFunc(todo, func(a, b *class) int { return cmp.Compare(b.level, a.level) })
	for len(todo) > 0 {
		c := todo[len(todo)-1]
		todo = todo[:len(todo)-1]
		for in := range c.within() {
			if in.level > c.level {
				in.level = c.level
				todo = append(todo, in)
			}
		}
	}
}

// loose is those of vars, whose classes are in l, that are not held at that level.
func loose(l []*class, vars []int, level int) []int {
	return slices.DeleteFunc(vars, func(v int) bool { return l[v].all().level <= level })
}
