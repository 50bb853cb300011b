package scheme

import (
	"math"
	"slices"
	"testing"

	"usufruct/api"
	"usufruct/ty"
)

// refused says that t is to be no instance of s.
func refused(t *testing.T, s api.Scheme, x api.Type) {
	t.Helper()
	if types, mults, ok := Instance(s, x); ok || len(types)+len(mults) != 0 {
		t.Error(Text(s, nil), "of", ty.Text(x, nil), types, mults, ok)
	}
}

// taken says that x is to be an instance of s, with just these put.
func taken(t *testing.T, s api.Scheme, x api.Type, types []api.Type, mults []api.Mult) {
	t.Helper()
	gotTypes, gotMults, ok := Instance(s, x)
	if !ok || !slices.EqualFunc(gotTypes, types, same) || !slices.Equal(gotMults, mults) {
		t.Error(Text(s, nil), "of", ty.Text(x, nil), gotTypes, gotMults, ok)
	}
}

func TestP83Examples(t *testing.T) {
	k := closed(t, fun(tv(0), mv(0), fun(tv(1), mv(1), tv(0))), 3, upTo(mc(affine), one, 1))
	taken(t, k, fun(integer, mc(one), fun(str, mc(affine), integer)), []api.Type{integer, str}, []api.Mult{one, affine})
	refused(t, k, fun(integer, mc(one), fun(str, mc(one), integer)))
}

func TestP83Cases(t *testing.T) {
	id := open(fun(tv(0), mv(0), tv(0)))
	for _, x := range []api.Type{integer, str, io, file, data(3), arr(tv(7)), tv(0), tv(api.MaxVars - 1), fun(tv(1), mv(4), tv(0)), fun(file, mc(many), data(2, io))} {
		for m := one; m <= many; m++ {
			taken(t, id, fun(x, mc(m), x), []api.Type{x}, []api.Mult{m})
			refused(t, id, fun(x, mc(m), arr(x)))
			refused(t, id, fun(arr(x), mc(m), x))
		}
		refused(t, id, fun(x, mv(0), x))
		refused(t, id, fun(x, mv(3), x))
		refused(t, id, x)
		taken(t, open(tv(0)), x, []api.Type{x}, nil)
		refused(t, open(arr(integer)), x)
	}
	// What is put at one variable is the same in all places, its multiplicities too.
	for _, m := range []api.Mu{mc(one), mc(affine), mv(0), mv(1)} {
		for _, other := range []api.Mu{mc(one), mc(affine), mv(0), mv(1)} {
			x := fun(fun(io, m, io), mc(one), fun(io, other, io))
			if m == other {
				taken(t, id, x, []api.Type{fun(io, m, io)}, []api.Mult{one})
			} else {
				refused(t, id, x)
			}
		}
	}
	// One variable of multiplicities is one multiplicity.
	twice := open(fun(io, mv(0), fun(io, mv(0), io)))
	taken(t, twice, fun(io, mc(many), fun(io, mc(many), io)), nil, []api.Mult{many})
	refused(t, twice, fun(io, mc(many), fun(io, mc(one), io)))
	refused(t, twice, fun(io, mc(many), fun(io, mv(0), io)))
	refused(t, twice, fun(io, mv(0), fun(io, mv(0), io)))
	// What is no variable stays.
	fixed := open(fun(data(1, integer, str), mc(affine), arr(io)))
	taken(t, fixed, fun(data(1, integer, str), mc(affine), arr(io)), nil, nil)
	for _, x := range []api.Type{
		fun(data(1, integer, str), mc(one), arr(io)),
		fun(data(1, integer, str), mv(0), arr(io)),
		fun(data(2, integer, str), mc(affine), arr(io)),
		fun(data(1, integer), mc(affine), arr(io)),
		fun(data(1, integer, str, str), mc(affine), arr(io)),
		fun(data(1, str, integer), mc(affine), arr(io)),
		fun(data(1, integer, str), mc(affine), arr(file)),
		fun(data(1, integer, str), mc(affine), data(1, io)),
		fun(data(1, integer, tv(0)), mc(affine), arr(io)),
		fun(arr(io), mc(affine), data(1, integer, str)),
	} {
		refused(t, fixed, x)
	}
}

func TestP83Tables(t *testing.T) {
	x := fun(io, mv(0), fun(io, mv(1), fun(io, mv(2), io)))
	p := picks(5)
	for range 300 {
		s := of(x, p.wildTable(3))
		for _, asg := range assignments(3) {
			if lets(s.Tab, asg) {
				taken(t, s, withMults(x, asg), nil, asg)
			} else {
				refused(t, s, withMults(x, asg))
			}
		}
	}
	// The table's order is that in which the variables stand, not that of what is behind and ahead in the type's lists.
	s := closed(t, fun(fun(io, mv(7), io), mv(2), io), 8, under(mv(7), one), upTo(mc(many), one, 2))
	taken(t, s, fun(fun(io, mc(one), io), mc(many), io), nil, []api.Mult{one, many})
	refused(t, s, fun(fun(io, mc(many), io), mc(one), io))
}

// All that comes of a scheme is an instance, of just what was put.
func TestP83Come(t *testing.T) {
	p := picks(6)
	for i := range 4000 {
		s := open(p.grown(1+i%60, 4, 6))
		var types []api.Type
		var mults []api.Mult
		for range s.Types {
			types = append(types, p.grown(1+p.below(7), 4, 4))
		}
		for range s.Mults {
			mults = append(mults, p.mult())
		}
		x := come(s.T, types, mults)
		if size(x) > api.MaxType {
			refused(t, s, x)
			continue
		}
		taken(t, s, x, types, mults)
		// Another table, that lets not just these be.
		if s.Mults > 0 {
			v := p.below(s.Mults)
			s.Tab.Low[v], s.Tab.Up[v] = mults[v], mults[v]
			taken(t, s, x, types, mults)
			s.Tab.Low[v], s.Tab.Up[v] = mults[v]%3+1, mults[v]%3+1
			refused(t, s, x)
		}
	}
}

// Small schemes and small types, against all that may be put.
func TestP83Few(t *testing.T) {
	p := picks(7)
	is, not := 0, 0
	for i := range 15000 {
		s := of(p.grown(1+i%7, 2, 2), api.Table{})
		s.Tab = free(s.Mults)
		if i%2 == 0 {
			s.Tab = p.wildTable(s.Mults)
		}
		x := p.grown(1+p.below(8), 2, 2)
		if i%3 > 0 {
			// Much like an instance: what is put at one variable may be spoilt in one place.
			row := []api.Type{p.grown(1+p.below(3), 2, 2), p.grown(1+p.below(3), 2, 2), integer}
			x = put(s.T, func(n int) api.Type { return row[(n+p.below(9)/8)%3] }, func(v int) api.Mu { return mc(p.mult()) })
		}
		types, mults, ok := instance(s, x)
		if ok {
			is++
			taken(t, s, x, types, mults)
		} else {
			not++
			refused(t, s, x)
		}
	}
	if is < 1000 || not < 1000 {
		t.Error(is, not)
	}
}

func TestP83Refused(t *testing.T) {
	for name, x := range noSchemes() {
		for _, y := range []api.Type{x.s.T, integer, come(fun(tv(0), mv(0), fun(tv(1), mv(1), tv(0))), []api.Type{integer, str}, []api.Mult{many, many})} {
			if types, mults, ok := Instance(x.s, y); ok || len(types)+len(mults) != 0 {
				t.Error(name)
			}
		}
	}
	for _, x := range noTypes() {
		refused(t, open(tv(0)), x)
		refused(t, open(arr(tv(0))), arr(x))
		refused(t, open(fun(tv(0), mv(0), tv(1))), fun(integer, mc(one), x))
		refused(t, api.Scheme{Types: 1, T: x}, x)
	}
	refused(t, open(tv(0)), fun(integer, api.Mu{V: math.MinInt}, integer))
	refused(t, api.Scheme{}, api.Type{})
}

// The greatest types that may be: as many nodes as there are, and as many variables.
func TestP83AsGreatAsMayBe(t *testing.T) {
	most := nest(api.MaxType-1, integer)
	taken(t, open(tv(0)), most, []api.Type{most}, nil)
	refused(t, open(tv(0)), arr(most))
	refused(t, open(arr(tv(0))), arr(most))
	x := tv(api.MaxType)
	types := []api.Type{integer}
	for v := range 149 {
		x = fun(tv(v), mv(v), x)
		types = append(types, []api.Type{integer, str, io}[v%3])
	}
	s := open(x)
	if s.Types != 150 || s.Mults != 149 || size(x) != api.MaxType-1 || May(s) != api.OK {
		t.Fatal(s.Types, s.Mults, size(x))
	}
	mults := slices.Repeat([]api.Mult{affine}, 149)
	for v := range mults[1:] {
		s.Tab.Pair[v][v+1] = one
	}
	slices.Reverse(types)
	taken(t, s, come(s.T, types, mults), types, mults)
	mults[148] = one
	refused(t, s, come(s.T, types, mults))
	if !More(s, s) || !More(open(x), s) || More(s, open(x)) {
		t.Error("more")
	}
}

// What is answered shares no list with what was handed in, and none with another one.
func TestP83NewMemory(t *testing.T) {
	inner := []api.Type{arr(str), integer}
	x := fun(data(2, inner...), mc(one), fun(data(2, inner...), mc(many), data(2, inner...)))
	s := open(fun(tv(0), mv(0), fun(tv(1), mv(1), tv(0))))
	before, beforeScheme := cloned(x), clonedScheme(s)
	types, mults, ok := Instance(s, x)
	if !ok || len(types) != 2 || len(mults) != 2 {
		t.Fatal(types, mults, ok)
	}
	want := cloned(types[1])
	types[0].L[0].L[0], types[0].L[1] = file, file
	_ = append(types[0].L, file)
	if !same(types[1], want) {
		t.Error("two lists of the answer are one")
	}
	types[1].L[0].L[0], types[1].L[1], mults[0] = file, file, affine
	if !same(x, before) || !sameScheme(s, beforeScheme) {
		t.Error("the answer shares with an argument")
	}
}

func TestP82NewMemory(t *testing.T) {
	x := fun(arr(tv(3)), mv(0), fun(arr(str), mv(1), tv(3)))
	l := []api.Ineq{upTo(mv(0), one, 1)}
	before := cloned(x)
	s := closed(t, x, 2, l...)
	s.T.L[0].L[0], s.T.L[1].L[0].L[0], s.T.L[1].L[1] = file, file, file
	s.Tab.Pair[0][1] = many
	if !same(x, before) || l[0] != upTo(mv(0), one, 1) {
		t.Error("the answer shares with an argument")
	}
}
