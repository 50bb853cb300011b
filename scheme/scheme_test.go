package scheme

import (
	"math"
	"slices"
	"strconv"
	"testing"

	"usufruct/api"
	"usufruct/elim"
	"usufruct/ty"
)

// of is the scheme of t, numbered here, with that table.
func of(t api.Type, tab api.Table) api.Scheme {
	s := numbered(t)
	s.Tab = tab
	return s
}

// open is the scheme of t whose table lets all be.
func open(t api.Type) api.Scheme {
	s := numbered(t)
	s.Tab = free(s.Mults)
	return s
}

// closed is what Close tells, which is to be a scheme.
func closed(t *testing.T, x api.Type, n int, l ...api.Ineq) api.Scheme {
	t.Helper()
	s, e := Close(x, n, l)
	if e != api.OK || May(s) != api.OK {
		t.Fatal(ty.Text(x, nil), n, l, e)
	}
	return s
}

// noTypes is what is no type.
func noTypes() []api.Type {
	return []api.Type{
		{},
		{Kind: 9},
		tv(-1),
		tv(api.MaxVars),
		{Kind: api.TInt, N: 1},
		{Kind: api.TVar, M: mc(one)},
		{Kind: api.TArr},
		arr(api.Type{}),
		{Kind: api.TFun, M: mc(one), L: []api.Type{tv(0)}},
		fun(integer, api.Mu{V: 1, C: one}, integer),
		fun(integer, mv(-1), integer),
		fun(integer, mv(api.MaxVars), integer),
		fun(integer, mc(4), integer),
		data(api.MaxDatas),
		data(0, slices.Repeat([]api.Type{integer}, api.MaxParams+1)...),
	}
}

// refusal is what is no scheme, and its error.
type refusal struct {
	s api.Scheme
	e api.Errno
}

// noSchemes is what is no scheme, mostly for another reason than that its type is none.
func noSchemes() map[string]refusal {
	k := fun(tv(0), mv(0), fun(tv(1), mv(1), tv(0)))
	all := map[string]refusal{}
	add := func(name string, e api.Errno, types, mults int, t api.Type, tab api.Table) {
		all[name] = refusal{api.Scheme{Types: types, Mults: mults, T: t, Tab: tab}, e}
	}
	add("types begin at 1", api.ErrArg, 1, 0, tv(1), free(0))
	add("types begin at 1, and are two", api.ErrArg, 2, 0, tv(1), free(0))
	add("types in another order", api.ErrArg, 2, 1, fun(tv(1), mv(0), tv(0)), free(1))
	add("types with one left out", api.ErrArg, 2, 1, fun(tv(0), mv(0), tv(2)), free(1))
	add("multiplicities begin at 1", api.ErrArg, 0, 1, fun(integer, mv(1), integer), free(1))
	add("multiplicities in another order", api.ErrArg, 0, 2, fun(fun(io, mv(1), io), mv(0), io), free(2))
	add("the first type's multiplicity is behind", api.ErrArg, 0, 2, fun(fun(io, mv(1), io), mv(0), fun(io, mv(1), io)), free(2))
	for _, n := range []int{-1, 0, 1, 3, math.MaxInt, math.MinInt} {
		add("as many types as "+strconv.Itoa(n), api.ErrArg, n, 2, k, free(2))
		add("as many multiplicities as "+strconv.Itoa(n), api.ErrArg, 2, n, k, free(2))
	}
	add("no table", api.ErrArg, 2, 2, k, api.Table{})
	add("a table of one", api.ErrArg, 2, 2, k, free(1))
	add("a table of three", api.ErrArg, 2, 2, k, free(3))
	add("a table of as many as are kept", api.ErrArg, 2, 2, k, free(api.MaxKeep))
	add("a table of one more", api.ErrLong, 2, 2, k, free(api.MaxKeep+1))
	add("a table where there is none", api.ErrArg, 1, 0, tv(0), free(1))
	long := free(2)
	long.Up = slices.Repeat([]api.Mult{9}, api.MaxKeep+1)
	add("a table with a long list", api.ErrLong, 2, 2, k, long)
	for name, spoil := range map[string]func(t *api.Table){
		"a Low of 0":    func(t *api.Table) { t.Low[1] = 0 },
		"an Up of 4":    func(t *api.Table) { t.Up[0] = 4 },
		"a Pair of 0":   func(t *api.Table) { t.Pair[1][1] = 0 },
		"a short Up":    func(t *api.Table) { t.Up = t.Up[:1] },
		"a short Pair":  func(t *api.Table) { t.Pair = t.Pair[:1] },
		"a short row":   func(t *api.Table) { t.Pair[0] = t.Pair[0][:1] },
		"a Low of more": func(t *api.Table) { t.Low = append(t.Low, one) },
	} {
		tab := free(2)
		spoil(&tab)
		add(name, api.ErrArg, 2, 2, k, tab)
	}
	// Of two errors that of the type, and then that of the numbers, goes ahead.
	add("a type too long, and all else is wrong", api.ErrLong, -1, -1, nest(api.MaxType, tv(7)), long)
	add("no type, and a table too long", api.ErrArg, 2, 2, fun(tv(0), mv(0), fun(tv(1), mv(1), api.Type{})), long)
	add("wrong numbers, and a table too long", api.ErrArg, 2, 2, fun(tv(0), mv(1), fun(tv(1), mv(0), tv(0))), long)
	add("too many types, and a table too long", api.ErrArg, 3, 2, k, long)
	add("too many multiplicities, and a table too long", api.ErrArg, 2, 3, k, long)
	return all
}

func TestP81May(t *testing.T) {
	p := picks(1)
	for i := range 3000 {
		s := numbered(p.grown(1+i%60, 3, 4))
		s.Tab = p.wildTable(s.Mults)
		before := clonedScheme(s)
		if e := May(s); e != api.OK {
			t.Fatal(Text(s, nil), e)
		}
		if !sameScheme(s, before) {
			t.Fatal("changed")
		}
	}
	// None is as an empty list.
	for _, tab := range []api.Table{{}, {Low: []api.Mult{}, Up: []api.Mult{}, Pair: [][]api.Mult{}}} {
		if e := May(api.Scheme{T: integer, Tab: tab}); e != api.OK {
			t.Error(tab, e)
		}
	}
	// A table may let nothing be.
	none := free(1)
	none.Low[0], none.Up[0] = many, one
	if e := May(of(fun(io, mv(0), io), none)); e != api.OK {
		t.Error(e)
	}
	if e := May(api.Scheme{}); e != api.ErrArg {
		t.Error(e)
	}
}

func TestP81Refused(t *testing.T) {
	for _, x := range noTypes() {
		for _, y := range []api.Type{x, arr(x), fun(tv(0), mv(0), x), data(1, tv(0), x)} {
			types, mults := ty.Vars(y)
			if e := May(api.Scheme{Types: len(types), Mults: len(mults), T: y, Tab: free(len(mults))}); e != api.ErrArg {
				t.Error(y, e)
			}
		}
	}
	for name, x := range noSchemes() {
		if e := May(x.s); e != x.e {
			t.Errorf("%s: %d, not %d", name, e, x.e)
		}
	}
	full := nest(api.MaxType-1, tv(0))
	if e := May(open(full)); e != api.OK {
		t.Error(e)
	}
	if e := May(open(arr(full))); e != api.ErrLong {
		t.Error(e)
	}
}

func TestP82Close(t *testing.T) {
	p := picks(2)
	for i := range 4000 {
		n := 1 + p.below(4)
		x := p.grown(1+i%40, 5, n)
		l := p.ineqs(n, p.below(7))
		checkClose(t, x, n, l)
	}
	// Numbers that are far apart; the least n.
	x := fun(fun(tv(900), mv(7), tv(api.MaxVars-1)), mv(3), fun(tv(5), mv(7), tv(900)))
	s := closed(t, x, 8, upTo(mv(3), one, 0), upTo(mv(0), affine, 7))
	if text := Text(s, nil); text != "(a0 -m0> a1) -m1> a2 -m0> a0 if m1 <= ?|m0" {
		t.Error(text)
	}
	if s := closed(t, tv(9), 0); !sameScheme(s, api.Scheme{Types: 1, T: tv(0)}) {
		t.Error(s)
	}
	if s := closed(t, fun(tv(9), mv(api.MaxVars-1), tv(9)), api.MaxVars); s.Types != 1 || s.Mults != 1 || Text(s, nil) != "a0 -m0> a0" {
		t.Error(s)
	}
}

// checkClose holds what Close tells of x against the words of the document.
func checkClose(t *testing.T, x api.Type, n int, l []api.Ineq) {
	t.Helper()
	before := cloned(x)
	s, e := Close(x, n, l)
	if !same(x, before) {
		t.Fatal("changed")
	}
	solved := slices.DeleteFunc(assignments(n), func(asg []api.Mult) bool { return !holds(l, asg) })
	if len(solved) == 0 {
		if e != api.ErrClash || !bare(s) {
			t.Fatal(ty.Text(x, nil), l, e, s)
		}
		return
	}
	_, mults := vars(x)
	mults = firsts(mults)
	want := numbered(x)
	want.Tab = s.Tab
	if e != api.OK || !sameScheme(s, want) || len(s.Tab.Low) != len(mults) {
		t.Fatal(ty.Text(x, nil), l, e, s)
	}
	let := map[string]int{}
	for _, asg := range solved {
		let[key(picked(asg, mults))] = 1
	}
	for _, asg := range assignments(len(mults)) {
		if lets(s.Tab, asg) != (let[key(asg)] == 1) {
			t.Fatal(ty.Text(x, nil), l, asg, s.Tab)
		}
	}
}

func picked(asg []api.Mult, keep []int) []api.Mult {
	var some []api.Mult
	for _, v := range keep {
		some = append(some, asg[v])
	}
	return some
}

func key(asg []api.Mult) string {
	var b []byte
	for _, m := range asg {
		b = append(b, byte(m))
	}
	return string(b)
}

// The table is Project's, whatever it leaves out or makes tight.
func TestP82Table(t *testing.T) {
	x := fun(fun(io, mv(4), io), mv(1), fun(io, mv(2), io))
	l := []api.Ineq{upTo(mv(4), one, 3), upTo(mv(3), affine, 2), under(mv(2), affine), upTo(mc(affine), one, 0), upTo(mv(0), one, 1)}
	want, _ := elim.Project(5, l, []int{4, 1, 2})
	s := closed(t, x, 5, l...)
	if !elim.Same(s.Tab, want) || Text(s, nil) != "(Io -m0> Io) -m1> Io -m2> Io if m0 <= ?, m0 <= m1, m0 <= ?|m2, ? <= m1, m2 <= ?, m2 <= ?|m0, m2 <= m1" {
		t.Error(Text(s, nil))
	}
}

func TestP82Refused(t *testing.T) {
	clash := []api.Ineq{under(mc(many), one)}
	wrong := []api.Ineq{{R: -7}}
	long := slices.Repeat([]api.Ineq{under(mc(one), one)}, api.MaxIneqs+1)
	id := func(v int) api.Type { return fun(tv(0), mv(v), tv(0)) }
	for _, x := range []struct {
		name string
		t    api.Type
		n    int
		l    []api.Ineq
		want api.Errno
	}{
		{"a type too long, and all else", nest(api.MaxType, id(9)), -1, wrong, api.ErrLong},
		{"no type, and too many variables", arr(api.Type{}), api.MaxVars + 1, nil, api.ErrArg},
		{"a variable that is n", id(3), 3, nil, api.ErrArg},
		{"a variable above n", id(9), 3, nil, api.ErrArg},
		{"one of two is n", fun(io, mv(0), id(1)), 1, nil, api.ErrArg},
		{"a variable that is n, and too many inequalities", id(3), 3, long, api.ErrArg},
		{"a variable that is n, and a clash", id(3), 3, clash, api.ErrArg},
		{"a variable of none", id(0), 0, nil, api.ErrArg},
		{"a variable of less than none", id(0), -1, nil, api.ErrArg},
		{"less than none", tv(0), -1, nil, api.ErrArg},
		{"far less than none", tv(0), math.MinInt, nil, api.ErrArg},
		{"too many variables", id(0), api.MaxVars + 1, wrong, api.ErrLong},
		{"far too many variables", id(api.MaxVars - 1), math.MaxInt, nil, api.ErrLong},
		{"too many inequalities", id(0), 3, long, api.ErrLong},
		{"no inequality, and a clash", id(0), 3, append(slices.Clip(clash), wrong...), api.ErrArg},
		{"an inequality of the variable n", id(0), 3, []api.Ineq{upTo(mv(0), one, 3)}, api.ErrArg},
		{"a clash", id(0), 3, clash, api.ErrClash},
		{"a clash of what does not stand in the type", id(0), 3, []api.Ineq{upTo(mc(affine), one, 2), under(mv(2), one)}, api.ErrClash},
		{"a clash, and no variables", integer, 0, clash, api.ErrClash},
	} {
		if s, e := Close(x.t, x.n, x.l); e != x.want || !bare(s) {
			t.Errorf("%s: %d, not %d", x.name, e, x.want)
		}
	}
	for _, x := range noTypes() {
		for _, y := range []api.Type{x, arr(x), fun(tv(0), mc(one), x)} {
			if s, e := Close(y, api.MaxVars, nil); e != api.ErrArg || !bare(s) {
				t.Error(y, e)
			}
		}
	}
}

func TestP84Same(t *testing.T) {
	tab := free(2)
	tab.Low[1] = affine
	s := of(fun(tv(0), mv(0), fun(tv(1), mv(1), arr(tv(0)))), tab)
	if !Same(s, clonedScheme(s)) || !Same(api.Scheme{}, api.Scheme{}) {
		t.Error("not the same")
	}
	for name, change := range map[string]func(s *api.Scheme){
		"Types":         func(s *api.Scheme) { s.Types++ },
		"Mults":         func(s *api.Scheme) { s.Mults-- },
		"a kind":        func(s *api.Scheme) { s.T.L[0] = str },
		"a variable":    func(s *api.Scheme) { s.T.L[1].L[1].L[0] = tv(1) },
		"a constant":    func(s *api.Scheme) { s.T.M = mc(one) },
		"an arrow's":    func(s *api.Scheme) { s.T.L[1].M = mv(0) },
		"Low":           func(s *api.Scheme) { s.Tab.Low[1] = one },
		"Up":            func(s *api.Scheme) { s.Tab.Up[0] = affine },
		"Pair":          func(s *api.Scheme) { s.Tab.Pair[1][0] = one },
		"Pair of alike": func(s *api.Scheme) { s.Tab.Pair[1][1] = many },
		"no table":      func(s *api.Scheme) { s.Tab = api.Table{} },
	} {
		other := clonedScheme(s)
		change(&other)
		if Same(s, other) || Same(other, s) || !Same(other, clonedScheme(other)) {
			t.Error(name)
		}
	}
	a := api.Scheme{T: integer}
	b := api.Scheme{T: api.Type{Kind: api.TInt, L: []api.Type{}}, Tab: api.Table{Low: []api.Mult{}, Up: []api.Mult{}, Pair: [][]api.Mult{}}}
	if !Same(a, b) || !Same(b, a) {
		t.Error("an empty list is as none")
	}
	// What is no scheme is the same as itself, too.
	for name, x := range noSchemes() {
		if !Same(x.s, clonedScheme(x.s)) {
			t.Error(name)
		}
	}
	p := picks(4)
	var all []api.Scheme
	for range 60 {
		s := numbered(p.grown(1+p.below(5), 2, 2))
		s.Tab = p.wildTable(s.Mults)
		all = append(all, s)
	}
	for _, a := range all {
		for _, b := range all {
			if Same(a, b) != sameScheme(a, b) {
				t.Error(Text(a, nil), Text(b, nil))
			}
		}
	}
}

func TestP85Text(t *testing.T) {
	names := []string{"Bool", "Unit"}
	tight := free(2)
	tight.Low[0], tight.Up[1], tight.Pair[0][1], tight.Pair[1][0] = affine, affine, one, affine
	held := free(1)
	held.Low[0], held.Up[0] = many, many
	wide := free(11)
	wide.Pair[10][9] = one
	var chain api.Type = data(1)
	for v := 10; v >= 0; v-- {
		chain = fun(data(0), mv(v), chain)
	}
	for _, x := range []struct {
		s    api.Scheme
		want string
	}{
		{closed(t, fun(tv(5), mv(0), tv(5)), 1), "a0 -m0> a0"},
		{closed(t, fun(tv(0), mv(0), fun(tv(1), mv(1), tv(0))), 3, upTo(mc(affine), one, 1)), "a0 -m0> a1 -m1> a0 if ? <= m1"},
		{open(data(1)), "Unit"},
		{open(data(2, data(0), tv(3))), "#2 Bool a0"},
		{of(fun(tv(0), mv(0), fun(tv(1), mv(1), tv(0))), tight), "a0 -m0> a1 -m1> a0 if ? <= m0, m0 <= m1, m1 <= ?, m1 <= ?|m0"},
		{of(fun(arr(integer), mv(0), fun(io, mc(many), file)), held), "Arr Int -m0> Io -*> File if * <= m0"},
		{of(chain, wide), "Bool -m0> Bool -m1> Bool -m2> Bool -m3> Bool -m4> Bool -m5> Bool -m6> Bool -m7> Bool -m8> Bool -m9> Bool -m10> Unit if m10 <= m9"},
	} {
		if got := Text(x.s, names); got != x.want {
			t.Errorf("%s, not %s", got, x.want)
		}
	}
	if got := Text(open(data(1, data(0))), nil); got != "#1 #0" {
		t.Error(got)
	}
	// A table that may not be has no inequalities.
	held.Low[0] = 9
	if got := Text(of(fun(io, mv(0), io), held), nil); got != "Io -m0> Io" {
		t.Error(got)
	}
	if got := Text(api.Scheme{}, nil); got != "" {
		t.Error(got)
	}
}
