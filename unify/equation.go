package unify

import (
	"slices"

	"usufruct/api"
)

// equation is one that is being taken.
type equation struct {
	store *Store
	trail []change
	todo  [][2]*class // what must be the same, too
}

// change is a class that is about to be changed, and what it was.
type change struct {
	at  *class
	was class
}

// take takes a = b, which are laid as classes, or tells what is amiss with it, and puts back all that was changed.
func take[T any](q *equation, has func(T) bool, lay func(T) *class, a, b T) (e api.Errno) {
	if q.store == nil {
		return api.ErrNil
	}
	if !has(a) || !has(b) {
		return api.ErrArg
	}
	defer func() {
		if e == api.OK {
			return
		}
		for _, x := range slices.Backward(q.trail) {
			*x.at = x.was
		}
	}()
	q.todo = append(q.todo, [2]*class{lay(a), lay(b)})
	if amiss := q.joinAll(); amiss != api.OK {
		return amiss
	}
	if !q.rankAll() {
		return api.ErrLoop
	}
	q.noteLate()
	return api.OK
}

// layType is the class of t.
func (q *equation) layType(t api.Type) *class {
	q.store.low -= gap
	return q.layAt(t, q.store.low)
}

// layAt is the class of t, of that rank if it is a new one.
func (q *equation) layAt(t api.Type, rank int64) *class {
	if t.Kind == api.TVar {
		return q.store.types[t.N]
	}
	x := &shape{kind: t.Kind, n: t.N}
	for _, in := range t.L {
		x.within = append(x.within, q.layAt(in, rank+1))
	}
	if t.Kind == api.TFun {
		x.within = append(x.within, q.layMu(t.M))
	}
	c := &class{size: 1, first: unnamed, level: unheld, shape: x, rank: rank}
	q.changing(c)
	return c
}

// layMu is the class of m.
func (q *equation) layMu(m api.Mu) *class {
	if m.C == 0 {
		return q.store.mults[m.V]
	}
	return &class{size: 1, first: unnamed, level: unheld, c: m.C, rank: unranked}
}

// changing notes what c is ahead of a change. What is laid is noted too, as what it has within hasn't been looked at yet.
func (q *equation) changing(c *class) {
	q.trail = append(q.trail, change{c, *c})
}

// joinAll joins all that must be the same. ErrMult waits for the end, as ErrKind goes ahead of it.
func (q *equation) joinAll() api.Errno {
	e := api.OK
	for len(q.todo) > 0 {
		pair := q.todo[len(q.todo)-1]
		q.todo = q.todo[:len(q.todo)-1]
		switch q.join(pair[0].all(), pair[1].all()) {
		case api.ErrKind:
			return api.ErrKind
		case api.ErrMult:
			e = api.ErrMult
		}
	}
	return e
}

// join makes one class of a and b, which stand for themselves, and tells what is amiss between these two. What is within both is left to be joined later.
func (q *equation) join(a, b *class) api.Errno {
	if a == b {
		return api.OK
	}
	if a.size < b.size {
		a, b = b, a
	}
	q.changing(a)
	q.changing(b)
	x, y := a.shape, b.shape
	unlike := a.c != 0 && b.c != 0 && a.c != b.c
	// One shape is enough, as all that is within the other one is joined to what is within it.
	b.up, b.shape = a, nil
	a.size += b.size
	a.first = min(a.first, b.first)
	a.level = min(a.level, b.level)
	a.c = max(a.c, b.c)
	a.rank = max(a.rank, b.rank)
	switch {
	case unlike:
		return api.ErrMult
	case x == nil:
		a.shape = y
	case y == nil:
	case !x.isLike(y):
		return api.ErrKind
	default:
		for i := range x.within {
			q.todo = append(q.todo, [2]*class{x.within[i], y.within[i]})
		}
	}
	return api.OK
}
