package scheme

import (
	"testing"

	"usufruct/api"
)

// table is that of k variables, as change says.
func table(k int, change func(t *api.Table)) api.Table {
	t := free(k)
	change(&t)
	return t
}

// alike is the table of two that are always the same, one and the other way.
func alike(t *api.Table) { t.Pair[0][1], t.Pair[1][0] = one, one }

// nothing is a table that lets nothing be.
func nothing(t *api.Table) { t.Low[0], t.Up[0] = affine, one }

func TestP84MoreExamples(t *testing.T) {
	id := closed(t, fun(tv(5), mv(0), tv(5)), 1)
	if !More(id, closed(t, fun(integer, mc(affine), integer), 0)) {
		t.Error("not more")
	}
	k := closed(t, fun(tv(0), mv(0), fun(tv(1), mv(1), tv(0))), 3, upTo(mc(affine), one, 1))
	if More(id, k) || More(k, id) {
		t.Error("more")
	}
}

func TestP84MoreTypes(t *testing.T) {
	arrow := func(a, b api.Type) api.Scheme { return open(fun(a, mv(0), b)) }
	for _, x := range []struct {
		name   string
		a, b   api.Scheme
		ab, ba bool
	}{
		{name: "all", a: open(tv(0)), b: arrow(tv(0), tv(1)), ab: true},
		{name: "one variable for two", a: arrow(tv(0), tv(1)), b: arrow(tv(0), tv(0)), ab: true},
		{name: "a number", a: arrow(tv(0), tv(0)), b: arrow(integer, integer), ab: true},
		{name: "two kinds", a: arrow(tv(0), tv(0)), b: arrow(integer, str)},
		{name: "a variable within", a: arrow(tv(0), arr(tv(1))), b: arrow(tv(0), arr(tv(0))), ab: true},
		{name: "a variable within itself", a: arrow(tv(0), tv(0)), b: arrow(tv(0), arr(tv(0)))},
		{name: "other arguments", a: open(data(1, tv(0))), b: open(data(1, tv(0), tv(1)))},
		{name: "other data types", a: open(data(1, tv(0))), b: open(data(2, tv(0)))},
		{name: "other variables", a: arrow(tv(0), data(1, tv(1), tv(0))), b: arrow(tv(0), data(1, tv(1), tv(1)))},
		{name: "the one way and the other way round", a: arrow(tv(0), data(1, tv(0), tv(1))), b: arrow(tv(0), data(1, tv(1), tv(0)))},
		{name: "alike", a: arrow(arr(io), data(3, tv(0))), b: arrow(arr(io), data(3, tv(0))), ab: true, ba: true},
	} {
		if More(x.a, x.b) != x.ab || More(x.b, x.a) != x.ba {
			t.Error(x.name, More(x.a, x.b), More(x.b, x.a))
		}
	}
}

// Where a scheme's variable of types stands twice, what stands there in the other one is the same wherever its table lets it be.
func TestP84MoreOfMultiplicitiesWithin(t *testing.T) {
	a := open(fun(tv(0), mc(one), tv(0)))
	b := fun(fun(io, mv(0), io), mc(one), fun(io, mv(1), io))
	third := fun(fun(io, mv(0), fun(io, mv(2), io)), mc(one), fun(io, mv(1), fun(io, mv(2), io)))
	for _, x := range []struct {
		name string
		b    api.Scheme
		want bool
	}{
		{"free", open(b), false},
		{"one is not above the other", of(b, table(2, func(t *api.Table) { t.Pair[0][1] = one })), false},
		{"the other one is not above it", of(b, table(2, func(t *api.Table) { t.Pair[1][0] = one })), false},
		{"always the same", of(b, table(2, alike)), true},
		{"the same but where one is ?", of(b, table(2, func(t *api.Table) { t.Pair[0][1], t.Pair[1][0] = affine, one })), false},
		{"both 1", of(b, table(2, func(t *api.Table) { t.Up[0], t.Up[1] = one, one })), true},
		{"both *", of(b, table(2, func(t *api.Table) { t.Low[0], t.Low[1] = many, many })), true},
		{"both ?", of(b, table(2, func(t *api.Table) {
			t.Low[0], t.Low[1], t.Up[0], t.Up[1] = affine, affine, affine, affine
		})), true},
		{"? and * at most", of(b, table(2, func(t *api.Table) { t.Low[0], t.Low[1], t.Up[0] = affine, affine, affine })), false},
		{"one hands its Low to the other one", of(b, table(2, func(t *api.Table) { t.Low[0], t.Pair[0][1] = many, affine })), true},
		{"one has its Up of the other one", of(b, table(2, func(t *api.Table) { t.Up[0], t.Pair[1][0] = one, one })), true},
		{"the same by a third one", of(third, table(3, func(t *api.Table) {
			t.Pair[0][2], t.Pair[2][1], t.Pair[1][0] = one, one, one
		})), true},
		{"one way by a third one", of(third, table(3, func(t *api.Table) { t.Pair[0][2], t.Pair[2][1] = one, one })), false},
	} {
		if More(a, x.b) != x.want || more(a, x.b) != x.want {
			t.Error(x.name, More(a, x.b), more(a, x.b))
		}
	}
}

// A multiplicity of a scheme is met by a variable of the other one, if that is never another one.
func TestP84MoreOfOneMultiplicity(t *testing.T) {
	id := func(m api.Mu) api.Type { return fun(tv(0), m, tv(0)) }
	for m := one; m <= many; m++ {
		for low := one; low <= many; low++ {
			for up := low; up <= many; up++ {
				b := of(id(mv(0)), table(1, func(t *api.Table) { t.Low[0], t.Up[0] = low, up }))
				if More(open(id(mc(m))), b) != (low == m && up == m) {
					t.Error(m, low, up)
				}
				if More(b, open(id(mc(m)))) != (low <= m && m <= up) {
					t.Error("the other way", m, low, up)
				}
			}
		}
	}
	// It follows of two variables that the first one is ?: it is ? at least, and not above ? and the second one, which is 1.
	b := of(fun(io, mv(0), id(mv(1))), table(2, func(t *api.Table) { t.Low[0], t.Pair[0][1], t.Up[1] = affine, affine, one }))
	if !More(open(fun(io, mc(affine), id(mv(0)))), b) || !More(open(fun(io, mc(affine), id(mc(one)))), b) || More(open(fun(io, mc(many), id(mv(0)))), b) {
		t.Error("what follows")
	}
}

// pairTables is each table of two variables, but for what one of them says of itself.
func pairTables() []api.Table {
	var all []api.Table
	for n := range 3 * 3 * 3 * 3 * 3 * 3 {
		digit := func() api.Mult {
			m := one + api.Mult(n%3)
			n /= 3
			return m
		}
		all = append(all, table(2, func(t *api.Table) {
			t.Low[0], t.Low[1], t.Up[0], t.Up[1], t.Pair[0][1], t.Pair[1][0] = digit(), digit(), digit(), digit(), digit(), digit()
		}))
	}
	return all
}

// Each table of two variables against each one of a part of them: More is whether what the second one lets be the first one does.
func TestP84MoreTables(t *testing.T) {
	x := fun(io, mv(0), fun(io, mv(1), io))
	all := pairTables()
	let := make([]uint, len(all))
	for i, tab := range all {
		for bit, asg := range assignments(2) {
			if lets(tab, asg) {
				let[i] |= 1 << bit
			}
		}
	}
	for i, a := range all {
		for j := i % 7; j < len(all); j += 7 {
			if got := More(of(x, a), of(x, all[j])); got != (let[j]&^let[i] == 0) {
				t.Fatal(a, all[j], got)
			}
		}
	}
}

// Each table of two variables, for which a multiplicity and a variable stand, or twice the same one.
func TestP84MoreTablesOfOne(t *testing.T) {
	two := func(p, q api.Mu) api.Type { return fun(io, p, fun(io, q, io)) }
	types := []api.Type{two(mv(0), mv(0))}
	for m := one; m <= many; m++ {
		types = append(types, two(mc(m), mv(0)), two(mv(0), mc(m)))
	}
	for _, tab := range pairTables() {
		a := of(two(mv(0), mv(1)), tab)
		for _, x := range types {
			for low := one; low <= many; low++ {
				for up := one; up <= many; up++ {
					b := of(x, table(1, func(t *api.Table) { t.Low[0], t.Up[0] = low, up }))
					want := true
					for m := low; m <= up; m++ {
						y := withMults(x, []api.Mult{m})
						want = want && lets(tab, []api.Mult{y.M.C, y.L[1].M.C})
					}
					if More(a, b) != want {
						t.Fatal(Text(a, nil), " more than ", Text(b, nil), want)
					}
				}
			}
		}
	}
}

// Of a scheme without instances each one is an instance of any other, if both may be.
func TestP84MoreThanNone(t *testing.T) {
	none := of(fun(io, mv(0), io), table(1, nothing))
	ring := of(fun(io, mv(0), fun(io, mv(1), io)), table(2, func(t *api.Table) { t.Low[0], t.Pair[0][1], t.Up[1] = many, affine, affine }))
	for _, s := range []api.Scheme{open(integer), open(tv(0)), open(fun(io, mv(0), io)), none, ring} {
		if !More(s, none) || !More(s, ring) {
			t.Error(Text(s, nil))
		}
		if has := len(letBe(s.Tab)) > 0; More(none, s) == has || More(ring, s) == has {
			t.Error(Text(s, nil))
		}
	}
	for name, x := range noSchemes() {
		for _, s := range []api.Scheme{open(tv(0)), none, x.s} {
			if More(x.s, s) || More(s, x.s) {
				t.Error(name)
			}
		}
	}
	for _, x := range noTypes() {
		if s := (api.Scheme{T: x}); More(s, s) || More(s, none) || More(open(tv(0)), s) {
			t.Error(x)
		}
	}
}

// loosened is t with variables in some places, or other multiplicities.
func (p *picks) loosened(t api.Type) api.Type {
	if p.below(4) == 0 {
		return tv(p.below(2))
	}
	if t.Kind == api.TFun && p.below(3) == 0 {
		t.M = []api.Mu{mv(0), mv(1), mv(2), mc(p.mult())}[p.below(4)]
	}
	var l []api.Type
	for _, u := range t.L {
		l = append(l, p.loosened(u))
	}
	t.L = l
	return t
}

// Small schemes, against all assignments and all that may be put.
func TestP84MoreFew(t *testing.T) {
	p := picks(8)
	is, not, vain := 0, 0, 0
	for i := range 20000 {
		b := of(p.grown(1+i%8, 2, 3), api.Table{})
		a := of(p.loosened(b.T), api.Table{})
		a.Tab, b.Tab = free(a.Mults), p.wildTable(b.Mults)
		if i%2 == 0 {
			a.Tab = p.wildTable(a.Mults)
		}
		want := more(a, b)
		if More(a, b) != want {
			t.Fatal(Text(a, nil), " more than ", Text(b, nil), want)
		}
		switch {
		case len(letBe(b.Tab)) == 0:
			vain++
		case want:
			is++
		default:
			not++
		}
	}
	if is < 2000 || not < 2000 || vain < 1000 {
		t.Error(is, not, vain)
	}
}

func TestP84MoreChangesNothing(t *testing.T) {
	p := picks(9)
	for i := range 500 {
		a := of(p.grown(1+i%20, 2, 3), api.Table{})
		b := of(p.grown(1+i%20, 2, 3), api.Table{})
		a.Tab, b.Tab = p.wildTable(a.Mults), p.wildTable(b.Mults)
		beforeA, beforeB := clonedScheme(a), clonedScheme(b)
		More(a, b)
		Instance(a, b.T)
		Same(a, b)
		Text(a, nil)
		if !sameScheme(a, beforeA) || !sameScheme(b, beforeB) {
			t.Fatal("changed")
		}
	}
}

// Under each solution, with any types put, a type is an instance of what Close tells; and the multiplicities of an instance can be gone on to a solution.
func TestP86CloseAndInstance(t *testing.T) {
	p := picks(10)
	for i := range 1200 {
		n := 1 + p.below(4)
		x := p.grown(1+i%30, 3, n)
		l := p.ineqs(n, p.below(6))
		s, e := Close(x, n, l)
		if e != api.OK {
			continue
		}
		types := []api.Type{p.grown(1+p.below(5), 3, 3), p.grown(1+p.below(5), 3, 3), p.grown(1+p.below(5), 3, 3)}
		_, mults := vars(x)
		mults = firsts(mults)
		solved := map[string]int{}
		for _, asg := range assignments(n) {
			if !holds(l, asg) {
				continue
			}
			solved[key(picked(asg, mults))] = 1
			if _, got, ok := Instance(s, come(x, types, asg)); !ok || key(got) != key(picked(asg, mults)) {
				t.Fatal(Text(s, nil), asg, got, ok)
			}
		}
		for _, asg := range assignments(s.Mults) {
			if _, _, ok := Instance(s, withMults(s.T, asg)); ok != (solved[key(asg)] == 1) {
				t.Fatal(Text(s, nil), asg, ok)
			}
		}
	}
}

// More hangs together: of many schemes each is more than itself, and than what is less than what it is more than; and what is an instance of one is of all that are more.
func TestP86MoreHangsTogether(t *testing.T) {
	p := picks(11)
	var all []api.Scheme
	add := func(x api.Type, i int) {
		s := of(x, api.Table{})
		s.Tab = free(s.Mults)
		if i%2 == 0 {
			s.Tab = p.wildTable(s.Mults)
		}
		all = append(all, s)
	}
	base := fun(fun(io, mv(0), io), mv(1), fun(io, mv(2), io))
	for i := range 120 {
		add(p.loosened(base), i)
	}
	for i := range 60 {
		add(p.grown(1+i%7, 2, 3), i)
	}
	than := make([][]bool, len(all))
	for i, a := range all {
		for _, b := range all {
			than[i] = append(than[i], More(a, b))
		}
		if !than[i][i] {
			t.Fatal(Text(a, nil))
		}
	}
	count := 0
	for i := range all {
		for j := range all {
			if !than[i][j] {
				continue
			}
			count++
			for k := range all {
				if than[j][k] && !than[i][k] {
					t.Fatal(Text(all[i], nil), ", ", Text(all[j], nil), ", ", Text(all[k], nil))
				}
			}
			for _, asg := range letBe(all[j].Tab) {
				if _, _, ok := Instance(all[i], withMults(all[j].T, asg)); !ok {
					t.Fatal(Text(all[i], nil), ", ", Text(all[j], nil), asg)
				}
			}
		}
	}
	if count < 1000 {
		t.Error(count)
	}
}

// Whatever is handed in, each call ends.
func TestR1WhateverSchemes(t *testing.T) {
	p := picks(12)
	var wild func(depth int) api.Type
	wild = func(depth int) api.Type {
		x := api.Type{Kind: uint8(p.below(10)), N: p.below(4) - 1, M: api.Mu{V: p.below(4) - 1, C: api.Mult(p.below(5))}}
		if depth > 0 {
			for range p.below(4) {
				x.L = append(x.L, wild(depth-1))
			}
		}
		return x
	}
	scheme := func() api.Scheme {
		s := api.Scheme{Types: p.below(5) - 1, Mults: p.below(5) - 1, T: wild(p.below(4)), Tab: p.wildTable(p.below(4))}
		if p.below(2) == 0 {
			s.Tab.Pair = append(s.Tab.Pair, nil)
		}
		return s
	}
	for range 20000 {
		a, b := scheme(), scheme()
		May(a)
		Text(a, []string{"A"})
		Instance(a, b.T)
		More(a, b)
		Same(a, b)
		if s, e := Close(a.T, p.below(5)-1, p.ineqs(3, p.below(3))); e != api.OK && !bare(s) || e == api.OK && May(s) != api.OK {
			t.Fatal(a.T, e)
		}
	}
	deep := api.Scheme{Types: 1, T: nest(100_000, tv(0))}
	if May(deep) != api.ErrLong || More(deep, deep) || !Same(deep, deep) {
		t.Error("deep")
	}
	refused(t, deep, deep.T)
	refused(t, open(tv(0)), deep.T)
	if _, e := Close(deep.T, 0, nil); e != api.ErrLong {
		t.Error(e)
	}
}
