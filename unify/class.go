package unify

import (
	"iter"
	"math"

	"usufruct/api"
)

const (
	unnamed  = api.MaxVars   // stands where a class has no variable: more than each number of one
	unheld   = math.MaxInt   // the level of a class that has no variable
	unranked = math.MinInt64 // the rank of variables that stand within nothing, and have nothing within
)

// class is what must be the same, types or multiplicities. Of those that were joined one stands for all, and the way there is short, as the smaller ones were joined to the greater one.
type class struct {
	up    *class // nil, if it stands for itself
	size  int
	first int      // the lowest number of its variables
	level int      // the lowest one of its variables, and of those that it was told to stand within
	late  bool     // whether it is in the store's late
	c     api.Mult // which one multiplicities are; 0, if that is not known
	shape *shape   // what types are; nil, if that is not known
	rank  int64    // what stands within has a greater one, which can't be if something is within itself
}

// shape is a type that is no variable. What is within it is classes: those of the types, and behind them, of a function, that of its multiplicity; so both sorts are joined and held alike.
type shape struct {
	kind   uint8
	n      int
	within []*class
}

// isLike says whether both are of one make.
func (x *shape) isLike(y *shape) bool {
	return x.kind == y.kind && x.n == y.n && len(x.within) == len(y.within)
}

// all is the class that stands for c and all that it was joined with.
func (c *class) all() *class {
	for c.up != nil {
		c = c.up
	}
	return c
}

// within goes over what stands right within c, which stands for itself.
func (c *class) within() iter.Seq[*class] {
	return func(yield func(*class) bool) {
		if c.shape == nil {
			return
		}
		for _, in := range c.shape.within {
			if !yield(in.all()) {
				return
			}
		}
	}
}

// asMu is a class of multiplicities as it is told.
func (c *class) asMu() api.Mu {
	c = c.all()
	if c.c != 0 {
		return api.Mu{C: c.c}
	}
	return api.Mu{V: c.first}
}

// asType is a class of types as it is told. It takes a node off room for each of its own, and stops where there is none left: a type may have far more nodes than the store has classes.
func (c *class) asType(room *int) api.Type {
	c = c.all()
	*room--
	if c.shape == nil {
		return api.Type{Kind: api.TVar, N: c.first}
	}
	t := api.Type{Kind: c.shape.kind, N: c.shape.n}
	types := c.shape.within
	if t.Kind == api.TFun {
		last := len(types) - 1
		t.M = types[last].asMu()
		types = types[:last]
	}
	for _, in := range types {
		if *room < 0 {
			break
		}
		t.L = append(t.L, in.asType(room))
	}
	return t
}
