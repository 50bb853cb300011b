package unify

import (
	"math/rand"
	"slices"
	"testing"

	"usufruct/api"
	"usufruct/ty"
)

// model is a store by the chapter's words alone: it keeps what it was told, and works all out anew each time.
type model struct {
	types, mults []int // levels
	ofTypes      [][2]api.Type
	ofMults      [][2]api.Mu
}

// node is a type that stands somewhere in the equations, or a variable.
type node struct {
	t    api.Type
	kids []int
	m    int
}

// closure is the classes of a model: of types the variables come first; of multiplicities too, and then 1, ?, *.
type closure struct {
	m          *model
	nodes      []node
	tied, even []int // a class's number
}

func closureOf(m *model) *closure {
	c := &closure{m: m}
	for i := range m.types {
		c.nodes = append(c.nodes, node{t: tvar(i)})
	}
	for range len(m.mults) + 3 {
		c.even = append(c.even, len(c.even))
	}
	var sides [][2]int
	for _, q := range m.ofTypes {
		sides = append(sides, [2]int{c.lay(q[0]), c.lay(q[1])})
	}
	for i := range c.nodes {
		c.tied = append(c.tied, i)
	}
	for _, x := range sides {
		merge(c.tied, x[0], x[1])
	}
	for _, q := range m.ofMults {
		merge(c.even, c.mu(q[0]), c.mu(q[1]))
	}
	for c.grow() {
	}
	return c
}

func (c *closure) lay(t api.Type) int {
	if t.Kind == api.TVar {
		return t.N
	}
	n := node{t: t, m: -1}
	for _, u := range t.L {
		n.kids = append(n.kids, c.lay(u))
	}
	if t.Kind == api.TFun {
		n.m = c.mu(t.M)
	}
	c.nodes = append(c.nodes, n)
	return len(c.nodes) - 1
}

func (c *closure) mu(m api.Mu) int {
	if m.C == 0 {
		return m.V
	}
	return len(c.m.mults) + int(m.C) - 1
}

func merge(l []int, i, k int) bool {
	from, to := l[i], l[k]
	for j := range l {
		if l[j] == from {
			l[j] = to
		}
	}
	return from != to
}

// pairs goes through all pairs of types that are no variables and are in one class.
func (c *closure) pairs(do func(a, b node)) {
	v := len(c.m.types)
	for i := v; i < len(c.nodes); i++ {
		for k := v; k < i; k++ {
			if c.tied[i] == c.tied[k] {
				do(c.nodes[i], c.nodes[k])
			}
		}
	}
}

func oneMake(a, b node) bool {
	return a.t.Kind == b.t.Kind && a.t.N == b.t.N && len(a.kids) == len(b.kids)
}

func (c *closure) grow() (more bool) {
	c.pairs(func(a, b node) {
		if !oneMake(a, b) {
			return
		}
		for i := range a.kids {
			more = merge(c.tied, a.kids[i], b.kids[i]) || more
		}
		if a.m >= 0 {
			more = merge(c.even, a.m, b.m) || more
		}
	})
	return more
}

func (c *closure) amiss() api.Errno {
	e := api.OK
	c.pairs(func(a, b node) {
		if !oneMake(a, b) {
			e = api.ErrKind
		}
	})
	if e != api.OK {
		return e
	}
	v := len(c.m.mults)
	if c.even[v] == c.even[v+1] || c.even[v] == c.even[v+2] || c.even[v+1] == c.even[v+2] {
		return api.ErrMult
	}
	for i := len(c.m.types); i < len(c.nodes); i++ {
		if types, _ := c.inside(c.tied[i]); types[c.tied[i]] {
			return api.ErrLoop
		}
	}
	return api.OK
}

// inside is the classes that are within a class of types.
func (c *closure) inside(class int) (types, mults map[int]bool) {
	types, mults = map[int]bool{}, map[int]bool{}
	todo := []int{class}
	for len(todo) > 0 {
		x := todo[0]
		todo = todo[1:]
		for i, n := range c.nodes {
			if c.tied[i] != x || n.t.Kind == api.TVar {
				continue
			}
			for _, k := range n.kids {
				if !types[c.tied[k]] {
					types[c.tied[k]] = true
					todo = append(todo, c.tied[k])
				}
			}
			if n.m >= 0 {
				mults[c.even[n.m]] = true
			}
		}
	}
	return types, mults
}

func (c *closure) typ(t api.Type, room *int) api.Type {
	if *room--; *room < 0 {
		return api.Type{}
	}
	if t.Kind == api.TVar {
		for i, n := range c.nodes {
			if c.tied[i] == c.tied[t.N] && n.t.Kind != api.TVar {
				*room++
				return c.typ(n.t, room)
			}
		}
		return tvar(slices.Index(c.tied, c.tied[t.N]))
	}
	told := api.Type{Kind: t.Kind, N: t.N}
	if t.Kind == api.TFun {
		told.M = c.told(t.M)
	}
	for _, u := range t.L {
		told.L = append(told.L, c.typ(u, room))
	}
	return told
}

func (c *closure) told(m api.Mu) api.Mu {
	v := len(c.m.mults)
	for i := range 3 {
		if c.even[v+i] == c.even[c.mu(m)] {
			return api.Mu{C: api.Mult(i + 1)}
		}
	}
	return api.Mu{V: slices.Index(c.even, c.even[c.mu(m)])}
}

// held is the classes of types and of multiplicities that are held at that level.
func (c *closure) held(level int) (types, mults map[int]bool) {
	types, mults = map[int]bool{}, map[int]bool{}
	for i, l := range c.m.types {
		if l > level {
			continue
		}
		types[c.tied[i]] = true
		in, with := c.inside(c.tied[i])
		for k := range in {
			types[k] = true
		}
		for k := range with {
			mults[k] = true
		}
	}
	for i, l := range c.m.mults {
		if l <= level {
			mults[c.even[i]] = true
		}
	}
	return types, mults
}

func (c *closure) loose(t api.Type, level int) (types, mults []int) {
	heldT, heldM := c.held(level)
	allT, allM := ty.Vars(t)
	for _, v := range allT {
		if !heldT[c.tied[v]] {
			types = append(types, v)
		}
	}
	for _, v := range allM {
		if !heldM[c.even[v]] {
			mults = append(mults, v)
		}
	}
	return types, mults
}

// both is a store and its model, to which the same is done.
type both struct {
	t *testing.T
	s *Store
	m *model
}

func newBoth(t *testing.T, types, mults []int) *both {
	b := &both{t, New(), &model{types: types, mults: mults}}
	for i, l := range types {
		if v, e := b.s.Var(l); e != api.OK || !ty.Same(v, tvar(i)) {
			t.Fatal("Var", v, e)
		}
	}
	for i, l := range mults {
		if v, e := b.s.Mult(l); e != api.OK || v != mvar(i) {
			t.Fatal("Mult", v, e)
		}
	}
	return b
}

// unify tells the store x = y, and holds what it answers against the model.
func (b *both) unify(x, y api.Type) api.Errno {
	next := *b.m
	next.ofTypes = append(slices.Clone(b.m.ofTypes), [2]api.Type{x, y})
	want := closureOf(&next).amiss()
	if e := b.s.Unify(x, y); e != want {
		b.t.Fatalf("%s = %s: %d, not %d", ty.Text(x, nil), ty.Text(y, nil), e, want)
	}
	if want == api.OK {
		*b.m = next
	}
	return want
}

func (b *both) equal(x, y api.Mu) api.Errno {
	next := *b.m
	next.ofMults = append(slices.Clone(b.m.ofMults), [2]api.Mu{x, y})
	want := closureOf(&next).amiss()
	if e := b.s.Equal(x, y); e != want {
		b.t.Fatalf("%v = %v: %d, not %d", x, y, e, want)
	}
	if want == api.OK {
		*b.m = next
	}
	return want
}

// hold holds all that the store tells of l and of its variables against the model.
func (b *both) hold(l ...api.Type) {
	b.t.Helper()
	c := closureOf(b.m)
	for v := range b.m.types {
		l = append(l, tvar(v))
	}
	for _, x := range l {
		room := api.MaxType
		want, wantE := c.typ(x, &room), api.OK
		if room < 0 {
			want, wantE = api.Type{}, api.ErrBig
		}
		if got, e := b.s.Type(x); e != wantE || !ty.Same(got, want) {
			b.t.Fatalf("Type of %s: %s %d, not %s %d", ty.Text(x, nil), ty.Text(got, nil), e, ty.Text(want, nil), wantE)
		}
		for level := -1; level <= 4; level++ {
			var wantT, wantM []int
			if wantE == api.OK {
				wantT, wantM = c.loose(want, level)
			}
			types, mults, e := b.s.Loose(x, level)
			if e != wantE || !slices.Equal(types, wantT) || !slices.Equal(mults, wantM) {
				b.t.Fatalf("Loose of %s at %d: %v %v %d, not %v %v %d", ty.Text(x, nil), level, types, mults, e, wantT, wantM, wantE)
			}
		}
	}
	for v := range b.m.mults {
		if m, e := b.s.Mu(mvar(v)); e != api.OK || m != c.told(mvar(v)) {
			b.t.Fatalf("Mu of %d: %v %d, not %v", v, m, e, c.told(mvar(v)))
		}
	}
	if n, k := b.s.Count(); n != len(b.m.types) || k != len(b.m.mults) {
		b.t.Fatal("Count", n, k)
	}
}

// anyType is a type of a few nodes, of variables below types and mults.
func anyType(r *rand.Rand, deep, types, mults int) api.Type {
	if deep == 0 || r.Intn(3) == 0 {
		if k := r.Intn(6); k == 0 || types == 0 {
			return api.Type{Kind: api.TInt + uint8(r.Intn(4))}
		}
		return tvar(r.Intn(types))
	}
	in := func() api.Type { return anyType(r, deep-1, types, mults) }
	switch r.Intn(6) {
	case 0:
		return arr(in())
	case 1:
		return data(r.Intn(2), in())
	case 2:
		return data(r.Intn(2), in(), in())
	case 3:
		return data(r.Intn(2))
	}
	return fun(in(), anyMu(r, mults), in())
}

func anyMu(r *rand.Rand, mults int) api.Mu {
	if mults == 0 || r.Intn(4) == 0 {
		return api.Mu{C: api.Mult(1 + r.Intn(3))}
	}
	return mvar(r.Intn(mults))
}

func anyLevels(r *rand.Rand, most int) []int {
	l := make([]int, r.Intn(most+1))
	for i := range l {
		l[i] = r.Intn(4)
	}
	return l
}

func tvar(n int) api.Type         { return api.Type{Kind: api.TVar, N: n} }
func arr(t api.Type) api.Type     { return api.Type{Kind: api.TArr, L: []api.Type{t}} }
func mvar(v int) api.Mu           { return api.Mu{V: v} }
func mult(c api.Mult) api.Mu      { return api.Mu{C: c} }
func word(kind uint8) api.Type    { return api.Type{Kind: kind} }
func pair(a, b api.Type) api.Type { return data(api.DtPair, a, b) }

func fun(a api.Type, m api.Mu, b api.Type) api.Type {
	return api.Type{Kind: api.TFun, M: m, L: []api.Type{a, b}}
}

func data(n int, l ...api.Type) api.Type {
	return api.Type{Kind: api.TData, N: n, L: l}
}
