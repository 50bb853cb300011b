package scheme

import (
	"slices"

	"usufruct/api"
)

// The tests hold the package against the words of the document, done over by trying all that could be put: over types that are built from a few, with tables of all kinds, and over greater ones that come of what was put.

const (
	one    = api.One
	affine = api.Affine
	many   = api.Many
)

var (
	integer = api.Type{Kind: api.TInt}
	str     = api.Type{Kind: api.TStr}
	io      = api.Type{Kind: api.TIo}
	file    = api.Type{Kind: api.TFile}
)

func tv(n int) api.Type { return api.Type{Kind: api.TVar, N: n} }

func mv(v int) api.Mu { return api.Mu{V: v} }

func mc(c api.Mult) api.Mu { return api.Mu{C: c} }

func arr(t api.Type) api.Type { return api.Type{Kind: api.TArr, L: []api.Type{t}} }

func fun(a api.Type, m api.Mu, b api.Type) api.Type {
	return api.Type{Kind: api.TFun, M: m, L: []api.Type{a, b}}
}

func data(n int, l ...api.Type) api.Type { return api.Type{Kind: api.TData, N: n, L: l} }

// nest is t within n arrays.
func nest(n int, t api.Type) api.Type {
	for range n {
		t = arr(t)
	}
	return t
}

// upTo is the inequality that l is not above the greater one of c and the variable r.
func upTo(l api.Mu, c api.Mult, r int) api.Ineq { return api.Ineq{L: l, C: c, R: r} }

// under is the inequality that l is not above c.
func under(l api.Mu, c api.Mult) api.Ineq { return api.Ineq{L: l, C: c, R: -1} }

// picks is numbers that are the same each time.
type picks uint64

func (p *picks) below(n int) int {
	*p = *p*6364136223846793005 + 1442695040888963407
	return int(uint64(*p)>>33) % n
}

func (p *picks) mult() api.Mult { return one + api.Mult(p.below(3)) }

// ineqs is count inequalities between n variables, most of which say something.
func (p *picks) ineqs(n, count int) []api.Ineq {
	var l []api.Ineq
	for range count {
		x := upTo(mv(p.below(n)), []api.Mult{one, one, affine}[p.below(3)], p.below(n))
		switch p.below(6) {
		case 0:
			x.L = mc(affine)
		case 1:
			x.R = -1
		}
		l = append(l, x)
	}
	return l
}

// wildTable is a table of k variables: what one of its lists says may follow from the others or go against them.
func (p *picks) wildTable(k int) api.Table {
	t := free(k)
	for i := range k {
		t.Low[i] = []api.Mult{one, one, one, affine, many}[p.below(5)]
		t.Up[i] = []api.Mult{many, many, many, affine, one}[p.below(5)]
		for j := range k {
			t.Pair[i][j] = p.mult()
		}
	}
	return t
}

// free is the table of k variables that lets all be.
func free(k int) api.Table {
	t := api.Table{Low: slices.Repeat([]api.Mult{one}, k), Up: slices.Repeat([]api.Mult{many}, k)}
	for i := range k {
		row := slices.Repeat([]api.Mult{many}, k)
		row[i] = one
		t.Pair = append(t.Pair, row)
	}
	return t
}

// grown is a type of at most size nodes.
func (p *picks) grown(size, types, mults int) api.Type {
	if size < 3 {
		return []api.Type{integer, str, data(0), tv(p.below(types)), tv(p.below(types)), tv(p.below(types))}[p.below(6)]
	}
	switch p.below(5) {
	case 0:
		return arr(p.grown(size-1, types, mults))
	case 1:
		half := (size - 1) / 2
		return data(2, p.grown(half, types, mults), p.grown(half, types, mults))
	}
	m := mv(p.below(mults))
	if p.below(4) == 0 {
		m = mc(p.mult())
	}
	half := (size - 1) / 2
	return fun(p.grown(half, types, mults), m, p.grown(half, types, mults))
}

// numbered is the scheme of t, with its variables numbered by the words of the document, and no table yet.
func numbered(t api.Type) api.Scheme {
	types, mults := vars(t)
	types, mults = firsts(types), firsts(mults)
	t = put(t, func(n int) api.Type { return tv(slices.Index(types, n)) }, func(v int) api.Mu { return mv(slices.Index(mults, v)) })
	return api.Scheme{Types: len(types), Mults: len(mults), T: t}
}

// vars is all variables of t in order, each as often as it stands.
func vars(t api.Type) (types, mults []int) {
	if t.Kind == api.TVar {
		types = append(types, t.N)
	}
	for i, u := range t.L {
		if t.Kind == api.TFun && i == 1 && t.M.C == 0 {
			mults = append(mults, t.M.V)
		}
		ts, ms := vars(u)
		types, mults = append(types, ts...), append(mults, ms...)
	}
	return types, mults
}

// firsts is l with each number where it stands first alone.
func firsts(l []int) []int {
	var some []int
	for _, v := range l {
		if !slices.Contains(some, v) {
			some = append(some, v)
		}
	}
	return some
}

func put(t api.Type, types func(int) api.Type, mults func(int) api.Mu) api.Type {
	if t.Kind == api.TVar {
		return types(t.N)
	}
	if t.Kind == api.TFun && t.M.C == 0 {
		t.M = mults(t.M.V)
	}
	t.L = slices.Clone(t.L)
	for i := range t.L {
		t.L[i] = put(t.L[i], types, mults)
	}
	return t
}

// come is what comes of t with types and mults put.
func come(t api.Type, types []api.Type, mults []api.Mult) api.Type {
	return put(t, func(n int) api.Type { return types[n] }, func(v int) api.Mu { return mc(mults[v]) })
}

// withMults is t with mults put, and its variables of types as they are.
func withMults(t api.Type, mults []api.Mult) api.Type {
	return put(t, tv, func(v int) api.Mu { return mc(mults[v]) })
}

func cloned(t api.Type) api.Type { return put(t, tv, mv) }

func same(a, b api.Type) bool {
	return a.Kind == b.Kind && a.N == b.N && a.M == b.M && slices.EqualFunc(a.L, b.L, same)
}

func sameTable(a, b api.Table) bool {
	return slices.Equal(a.Low, b.Low) && slices.Equal(a.Up, b.Up) && slices.EqualFunc(a.Pair, b.Pair, slices.Equal)
}

func sameScheme(a, b api.Scheme) bool {
	return a.Types == b.Types && a.Mults == b.Mults && same(a.T, b.T) && sameTable(a.Tab, b.Tab)
}

func bare(s api.Scheme) bool { return sameScheme(s, api.Scheme{}) }

func clonedTable(t api.Table) api.Table {
	c := api.Table{Low: slices.Clone(t.Low), Up: slices.Clone(t.Up), Pair: slices.Clone(t.Pair)}
	for i := range c.Pair {
		c.Pair[i] = slices.Clone(c.Pair[i])
	}
	return c
}

func clonedScheme(s api.Scheme) api.Scheme {
	return api.Scheme{Types: s.Types, Mults: s.Mults, T: cloned(s.T), Tab: clonedTable(s.Tab)}
}

// assignments is all assignments of n multiplicities.
func assignments(n int) [][]api.Mult {
	all := [][]api.Mult{nil}
	for range n {
		var more [][]api.Mult
		for _, asg := range all {
			for m := one; m <= many; m++ {
				more = append(more, append(slices.Clip(asg), m))
			}
		}
		all = more
	}
	return all
}

// lets is the words of the document of a table (5).
func lets(t api.Table, asg []api.Mult) bool {
	for i, m := range asg {
		if m < t.Low[i] || t.Up[i] < m {
			return false
		}
		for j, other := range asg {
			if m > t.Pair[i][j] && m > other {
				return false
			}
		}
	}
	return true
}

// holds is the words of the document of inequalities (3).
func holds(l []api.Ineq, asg []api.Mult) bool {
	return !slices.ContainsFunc(l, func(x api.Ineq) bool {
		left := x.L.C
		if left == 0 {
			left = asg[x.L.V]
		}
		return left > x.C && (x.R == -1 || left > asg[x.R])
	})
}

// letBe is all assignments that t lets be.
func letBe(t api.Table) [][]api.Mult {
	return slices.DeleteFunc(assignments(len(t.Low)), func(asg []api.Mult) bool { return !lets(t, asg) })
}

// within is t and all types within it, each once.
func within(t api.Type) []api.Type {
	all := []api.Type{t}
	for _, u := range t.L {
		for _, w := range within(u) {
			if !slices.ContainsFunc(all, func(x api.Type) bool { return same(x, w) }) {
				all = append(all, w)
			}
		}
	}
	return all
}

// rows is each list of n of these types.
func rows(n int, of []api.Type) [][]api.Type {
	all := [][]api.Type{nil}
	for range n {
		var more [][]api.Type
		for _, row := range all {
			for _, t := range of {
				more = append(more, append(slices.Clip(row), t))
			}
		}
		all = more
	}
	return all
}

// size is how many nodes t has.
func size(t api.Type) int {
	n := 1
	for _, u := range t.L {
		n += size(u)
	}
	return n
}

// instance tells by trying all that may be put at the variables of s whether t comes of it. What is put at a variable stands within t, as each variable stands within the scheme's type.
func instance(s api.Scheme, t api.Type) ([]api.Type, []api.Mult, bool) {
	if size(s.T) > size(t) {
		return nil, nil, false
	}
	for _, mults := range letBe(s.Tab) {
		for _, types := range rows(s.Types, within(t)) {
			if same(come(s.T, types, mults), t) {
				return types, mults, true
			}
		}
	}
	return nil, nil, false
}

// more is the words of the document of More: the instances of b are gone through with b's own variables put, of which all others come.
func more(a, b api.Scheme) bool {
	return !slices.ContainsFunc(letBe(b.Tab), func(mults []api.Mult) bool {
		_, _, is := instance(a, withMults(b.T, mults))
		return !is
	})
}
