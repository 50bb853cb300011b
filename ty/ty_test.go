package ty

import (
	"slices"
	"strconv"
	"strings"
	"testing"

	"usufruct/api"
)

// The tests hold the package against the words of the document, done over by plain recursion: over types that are built twice over from a few, over many greater ones, and on what is no type. Deep and wide ones go beyond the limits.

var (
	integer = api.Type{Kind: api.TInt}
	str     = api.Type{Kind: api.TStr}
	io      = api.Type{Kind: api.TIo}
	file    = api.Type{Kind: api.TFile}

	one    = api.Mu{C: api.One}
	affine = api.Mu{C: api.Affine}
	many   = api.Mu{C: api.Many}
)

func tv(n int) api.Type { return api.Type{Kind: api.TVar, N: n} }

func mv(v int) api.Mu { return api.Mu{V: v} }

func arr(t api.Type) api.Type { return api.Type{Kind: api.TArr, L: []api.Type{t}} }

func fun(a api.Type, m api.Mu, b api.Type) api.Type {
	return api.Type{Kind: api.TFun, M: m, L: []api.Type{a, b}}
}

func data(n int, l ...api.Type) api.Type { return api.Type{Kind: api.TData, N: n, L: l} }

// picks is numbers that are the same each time.
type picks uint64

func (p *picks) below(n int) int {
	*p = *p*6364136223846793005 + 1442695040888963407
	return int(uint64(*p)>>33) % n
}

// built is types of at most rounds storeys, the lists' lengths from 0 to 2: all of one storey, and of those above all of one type within, and a part of those of two.
func built(rounds int) []api.Type {
	all := []api.Type{integer, str, io, file, tv(0), tv(1), data(0), data(1)}
	for range rounds {
		below := all
		for i, a := range below {
			all = append(all, arr(a), data(0, a), data(1, a))
			for k, b := range below {
				if len(below) > 8 && (i+k)%29 != 0 {
					continue
				}
				all = append(all, data(1, a, b))
				for _, m := range []api.Mu{one, many, mv(0), mv(1)} {
					all = append(all, fun(a, m, b))
				}
			}
		}
	}
	return all
}

// grown is a type of at most size nodes, of variables below vars.
func (p *picks) grown(size, vars int) api.Type {
	if size < 3 {
		return []api.Type{integer, str, io, file, data(p.below(3)), tv(p.below(vars)), tv(p.below(vars)), tv(p.below(vars))}[p.below(8)]
	}
	switch p.below(5) {
	case 0:
		return arr(p.grown(size-1, vars))
	case 1, 2:
		return fun(p.grown(size/2, vars), []api.Mu{one, affine, many, mv(p.below(vars)), mv(p.below(vars))}[p.below(5)], p.grown(size-1-size/2, vars))
	}
	var l []api.Type
	n := p.below(api.MaxParams + 1)
	for range n {
		l = append(l, p.grown((size-1)/n, vars))
	}
	return data(p.below(3), l...)
}

// some is many types, of 1 to 300 nodes.
func some(n, vars int) []api.Type {
	p := picks(7)
	var all []api.Type
	for i := range n {
		all = append(all, p.grown(1+i%api.MaxType, vars))
	}
	return all
}

// chain is an array of arrays, n nodes deep, of t.
func chain(n int, t api.Type) api.Type {
	for range n {
		t = arr(t)
	}
	return t
}

// cloned is t with other memory all through.
func cloned(t api.Type) api.Type {
	t.L = slices.Clone(t.L)
	for i := range t.L {
		t.L[i] = cloned(t.L[i])
	}
	return t
}

func plainSize(t api.Type) int {
	n := 1
	for _, u := range t.L {
		n += plainSize(u)
	}
	return n
}

func plainSame(a, b api.Type) bool {
	return a.Kind == b.Kind && a.N == b.N && a.M == b.M && slices.EqualFunc(a.L, b.L, plainSame)
}

// plainVars is all variables of t in order, each as often as it stands.
func plainVars(t api.Type) (types, mults []int) {
	if t.Kind == api.TVar {
		types = append(types, t.N)
	}
	for i, u := range t.L {
		if t.Kind == api.TFun && i == 1 && t.M.C == 0 {
			mults = append(mults, t.M.V)
		}
		ts, ms := plainVars(u)
		types, mults = append(types, ts...), append(mults, ms...)
	}
	return types, mults
}

// firsts is l with each number where it stands first alone.
func firsts(l []int) []int {
	var some []int
	for _, v := range l {
		if !slices.Contains(some, v) {
			some = append(some, v)
		}
	}
	return some
}

func plainPut(t api.Type, types func(int) api.Type, mults func(int) api.Mu) api.Type {
	if t.Kind == api.TVar {
		return types(t.N)
	}
	if t.Kind == api.TFun && t.M.C == 0 {
		t.M = mults(t.M.V)
	}
	t.L = slices.Clone(t.L)
	for i := range t.L {
		t.L[i] = plainPut(t.L[i], types, mults)
	}
	return t
}

// typesOf and multsOf are what lists have at their places, and the variable itself beyond.
func typesOf(l []api.Type) func(int) api.Type {
	return func(n int) api.Type {
		if n < len(l) {
			return l[n]
		}
		return tv(n)
	}
}

func multsOf(l []api.Mu) func(int) api.Mu {
	return func(v int) api.Mu {
		if v < len(l) {
			return l[v]
		}
		return mv(v)
	}
}

// plainText is the words of P6.4.
func plainText(t api.Type, names []string) string {
	within := func(u api.Type) string {
		s := plainText(u, names)
		if u.Kind == api.TFun || u.Kind == api.TArr || u.Kind == api.TData && len(u.L) > 0 {
			return " (" + s + ")"
		}
		return " " + s
	}
	switch t.Kind {
	case api.TVar:
		return "a" + strconv.Itoa(t.N)
	case api.TInt:
		return "Int"
	case api.TStr:
		return "Str"
	case api.TIo:
		return "Io"
	case api.TFile:
		return "File"
	case api.TArr:
		return "Arr" + within(t.L[0])
	case api.TFun:
		first := plainText(t.L[0], names)
		if t.L[0].Kind == api.TFun {
			first = "(" + first + ")"
		}
		m := "m" + strconv.Itoa(t.M.V)
		if t.M.C != 0 {
			m = []string{"1", "?", "*"}[t.M.C-1]
		}
		return first + " -" + m + "> " + plainText(t.L[1], names)
	}
	s := "#" + strconv.Itoa(t.N)
	if t.N < len(names) {
		s = names[t.N]
	}
	for _, u := range t.L {
		s += within(u)
	}
	return s
}

// noTypes is nodes that are of no type.
func noTypes() []api.Type {
	x := []api.Type{integer}
	all := []api.Type{
		{},
		{Kind: 9},
		{Kind: 255, L: x},
		tv(-1),
		tv(api.MaxVars),
		{Kind: api.TVar, M: one},
		{Kind: api.TVar, M: mv(1)},
		{Kind: api.TVar, L: x},
		{Kind: api.TArr},
		{Kind: api.TArr, L: []api.Type{integer, integer}},
		{Kind: api.TArr, N: 1, L: x},
		{Kind: api.TArr, M: one, L: x},
		{Kind: api.TFun, M: one},
		{Kind: api.TFun, M: one, L: x},
		{Kind: api.TFun, M: one, L: []api.Type{integer, integer, integer}},
		{Kind: api.TFun, M: one, N: 1, L: []api.Type{integer, integer}},
		{Kind: api.TFun, M: one, N: -1, L: []api.Type{integer, integer}},
		fun(integer, api.Mu{C: 4}, integer),
		fun(integer, api.Mu{C: api.One, V: 1}, integer),
		fun(integer, mv(-1), integer),
		fun(integer, mv(api.MaxVars), integer),
		data(-1),
		data(api.MaxDatas),
		data(0, integer, integer, integer, integer, integer),
		{Kind: api.TData, M: one},
		{Kind: api.TData, M: mv(-1), L: x},
	}
	for k := api.TInt; k <= api.TFile; k++ {
		all = append(all, api.Type{Kind: k, N: 1}, api.Type{Kind: k, N: -1}, api.Type{Kind: k, M: many}, api.Type{Kind: k, M: mv(2)}, api.Type{Kind: k, L: x})
	}
	return all
}

// wrapped is t at each place within a type.
func wrapped(t api.Type) []api.Type {
	return []api.Type{t, arr(t), fun(t, one, integer), fun(integer, mv(0), t), data(0, t), data(0, integer, str, tv(0), t), arr(fun(str, one, data(2, io, t, file)))}
}

func TestP61Size(t *testing.T) {
	for _, x := range append(built(2), some(900, 3)...) {
		if Size(x) != plainSize(x) {
			t.Fatal(Text(x, nil), Size(x))
		}
	}
	for _, x := range noTypes() {
		if Size(x) != plainSize(x) {
			t.Error(x, Size(x))
		}
	}
	if n := Size(chain(1_000_000, tv(0))); n != 1_000_001 {
		t.Error(n)
	}
	if n := Size(data(0, make([]api.Type, 100_000)...)); n != 100_001 {
		t.Error(n)
	}
}

func TestP61May(t *testing.T) {
	for _, x := range append(built(2), some(900, 3)...) {
		if e := May(x); e != api.OK {
			t.Fatal(Text(x, nil), e)
		}
	}
	edges := []api.Type{tv(0), tv(api.MaxVars - 1), data(api.MaxDatas - 1), data(0, integer, integer, integer, integer), fun(integer, mv(api.MaxVars-1), integer), fun(integer, affine, integer)}
	for _, x := range edges {
		for i, y := range wrapped(x) {
			if e := May(y); e != api.OK {
				t.Error(x, i, e)
			}
		}
	}
	for _, x := range noTypes() {
		for i, y := range wrapped(x) {
			if e := May(y); e != api.ErrArg {
				t.Error(x, i, e)
			}
		}
	}
}

func TestP61MayLong(t *testing.T) {
	full := func(n int) api.Type { return fun(chain(n/2, tv(1)), one, chain(n-3-n/2, integer)) }
	for _, x := range []api.Type{chain(299, tv(0)), full(300)} {
		if e := May(x); e != api.OK || Size(x) != 300 {
			t.Error(Size(x), e)
		}
	}
	// Too many nodes are told ahead of what is no type.
	long := []api.Type{chain(300, tv(0)), full(301), chain(300, api.Type{}), data(-1, make([]api.Type, 300)...), chain(1_000_000, tv(0)), data(0, make([]api.Type, 100_000)...)}
	for _, x := range long {
		if e := May(x); e != api.ErrLong {
			t.Error(Size(x), e)
		}
	}
	if e := May(chain(299, api.Type{})); e != api.ErrArg {
		t.Error(e)
	}
	if e := May(data(-1, make([]api.Type, 299)...)); e != api.ErrArg {
		t.Error(e)
	}
	// Each is twice the one within: there are far too many nodes to count them all.
	x := integer
	for range 60 {
		x = fun(x, one, x)
	}
	if e := May(x); e != api.ErrLong {
		t.Error(e)
	}
}

func TestP61Same(t *testing.T) {
	all := append(built(1), noTypes()...)
	all = append(all, some(300, 2)...)
	for _, a := range all {
		if !Same(a, cloned(a)) {
			t.Fatal(a)
		}
		for _, b := range all {
			if Same(a, b) != plainSame(a, b) {
				t.Fatal(a, b)
			}
		}
	}
	if !Same(integer, api.Type{Kind: api.TInt, L: []api.Type{}}) {
		t.Error("an empty list")
	}
	for i, a := range wrapped(integer) {
		for k, b := range wrapped(str) {
			if Same(a, b) {
				t.Error(i, k)
			}
		}
	}
	deep := chain(1_000_000, integer)
	if !Same(deep, chain(1_000_000, integer)) || Same(deep, chain(1_000_000, str)) || Same(deep, chain(999_999, integer)) {
		t.Error("deep")
	}
}

func TestP62Vars(t *testing.T) {
	for _, x := range append(built(2), some(900, 9)...) {
		ts, ms := Vars(x)
		wantTs, wantMs := plainVars(x)
		if !slices.Equal(ts, firsts(wantTs)) || !slices.Equal(ms, firsts(wantMs)) {
			t.Fatal(Text(x, nil), ts, ms)
		}
	}
	// The multiplicity of a function stands behind its first type's ones, and ahead of its second's.
	x := fun(fun(tv(7), mv(5), tv(2)), mv(9), fun(tv(7), mv(5), fun(tv(0), mv(0), tv(2))))
	if ts, ms := Vars(x); !slices.Equal(ts, []int{7, 2, 0}) || !slices.Equal(ms, []int{5, 9, 0}) {
		t.Error(ts, ms)
	}
	if ts, ms := Vars(data(0, arr(integer), fun(str, many, io))); len(ts) != 0 || len(ms) != 0 {
		t.Error(ts, ms)
	}
	var wide []api.Type
	for i := range 200_000 {
		wide = append(wide, fun(tv(i/2), mv(i/4), tv(i/2)))
	}
	if ts, ms := Vars(data(0, wide...)); len(ts) != 100_000 || len(ms) != 50_000 || ts[99_999] != 99_999 || ms[1] != 1 {
		t.Error(len(ts), len(ms))
	}
}

func TestP62Put(t *testing.T) {
	p := picks(3)
	for _, x := range append(built(2), some(600, 4)...) {
		var types []api.Type
		for range p.below(6) {
			types = append(types, p.grown(1+p.below(6), 5))
		}
		var mults []api.Mu
		for range p.below(6) {
			mults = append(mults, []api.Mu{one, affine, many, mv(p.below(5))}[p.below(4)])
		}
		got, e := Put(x, types, mults)
		want := plainPut(x, typesOf(types), multsOf(mults))
		if plainSize(want) > api.MaxType {
			if e != api.ErrLong || !plainSame(got, api.Type{}) {
				t.Fatal(Text(x, nil), e)
			}
		} else if e != api.OK || !plainSame(got, want) {
			t.Fatal(Text(x, nil), Text(got, nil), e)
		}
	}
}

func TestP62PutAtOnce(t *testing.T) {
	// What is put is not put into.
	x := fun(tv(0), mv(0), fun(tv(1), mv(1), tv(2)))
	got, e := Put(x, []api.Type{arr(tv(1)), tv(0)}, []api.Mu{mv(1), mv(0)})
	if want := fun(arr(tv(1)), mv(1), fun(tv(0), mv(0), tv(2))); e != api.OK || !plainSame(got, want) {
		t.Error(Text(got, nil), e)
	}
	// The variable itself may be the whole type; a function that is put keeps its own multiplicity.
	got, e = Put(tv(0), []api.Type{fun(tv(0), mv(0), tv(0))}, []api.Mu{many})
	if e != api.OK || Text(got, nil) != "a0 -m0> a0" {
		t.Error(Text(got, nil), e)
	}
	got, e = Put(tv(api.MaxVars-1), nil, nil)
	if e != api.OK || !plainSame(got, tv(api.MaxVars-1)) {
		t.Error(got, e)
	}
	// The variable 0 of multiplicities is a function's alone.
	got, e = Put(arr(integer), []api.Type{str}, []api.Mu{many})
	if e != api.OK || !plainSame(got, arr(integer)) {
		t.Error(got, e)
	}
}

func TestP62PutErrors(t *testing.T) {
	refused := func(want api.Errno, x api.Type, types []api.Type, mults []api.Mu) {
		t.Helper()
		if got, e := Put(x, types, mults); e != want || got.Kind != 0 || got.N != 0 || got.M != (api.Mu{}) || len(got.L) != 0 {
			t.Error(want, e, got)
		}
	}
	for _, x := range noTypes() {
		for _, y := range wrapped(x) {
			refused(api.ErrArg, y, nil, nil)
			refused(api.ErrArg, integer, []api.Type{y}, nil)
			refused(api.ErrArg, tv(0), []api.Type{integer, integer, y}, []api.Mu{one})
		}
	}
	for _, m := range []api.Mu{{C: 4}, {C: api.One, V: 1}, mv(-1), mv(api.MaxVars)} {
		refused(api.ErrArg, integer, nil, []api.Mu{m})
		refused(api.ErrArg, fun(tv(0), mv(0), tv(0)), []api.Type{integer}, []api.Mu{one, many, m})
	}
	// What may not be is told ahead of what would be too long.
	long, most := chain(300, integer), chain(299, integer)
	refused(api.ErrArg, long, nil, nil)
	refused(api.ErrArg, integer, []api.Type{long}, nil)
	refused(api.ErrArg, arr(tv(0)), []api.Type{most, {}}, nil)
	refused(api.ErrArg, arr(tv(0)), []api.Type{most}, []api.Mu{{C: 4}})
	refused(api.ErrLong, arr(tv(0)), []api.Type{most}, nil)
	refused(api.ErrLong, fun(tv(1), one, tv(1)), []api.Type{integer, chain(149, integer)}, nil)
	if got, e := Put(fun(tv(1), one, arr(tv(1))), []api.Type{integer, chain(148, integer)}, nil); e != api.OK || Size(got) != 300 {
		t.Error(Size(got), e)
	}
	if got, e := Put(tv(0), []api.Type{most}, nil); e != api.OK || Size(got) != 300 {
		t.Error(Size(got), e)
	}
	if got, e := Put(arr(tv(1)), []api.Type{most}, nil); e != api.OK || Size(got) != 2 {
		t.Error(Size(got), e)
	}
}

func TestP62PutNewMemory(t *testing.T) {
	x := data(1, arr(str), tv(0), tv(0), fun(tv(1), mv(0), integer))
	types := []api.Type{arr(arr(io)), data(2, integer)}
	mults := []api.Mu{mv(1)}
	gotX, gotTypes := cloned(x), []api.Type{cloned(types[0]), cloned(types[1])}
	got, _ := Put(x, types, mults)
	want := cloned(got)
	if !plainSame(x, gotX) || !slices.EqualFunc(types, gotTypes, plainSame) || mults[0] != mv(1) {
		t.Error("an argument is changed")
	}
	x.L[0].L[0], x.L[3].L[1] = file, file
	types[0].L[0].L[0], types[0].L[0], types[1].L[0] = file, file, file
	if !plainSame(got, want) {
		t.Error("the answer shares with an argument")
	}
	got.L[1].L[0].L[0] = file
	if !plainSame(got.L[2], want.L[2]) {
		t.Error("two lists of the answer are one")
	}
	full := slices.Grow(got.L[1].L, 1)[:1]
	_ = append(full, integer)
	if !plainSame(got.L[2], want.L[2]) {
		t.Error("a list of the answer goes on in another one")
	}
}

func TestP63Canon(t *testing.T) {
	for _, x := range append(built(2), some(900, 9)...) {
		before := cloned(x)
		c, ts, ms := Canon(x)
		wantTs, wantMs := plainVars(x)
		wantTs, wantMs = firsts(wantTs), firsts(wantMs)
		want := plainPut(x, func(n int) api.Type { return tv(slices.Index(wantTs, n)) }, func(v int) api.Mu { return mv(slices.Index(wantMs, v)) })
		if !plainSame(c, want) || !slices.Equal(ts, wantTs) || !slices.Equal(ms, wantMs) {
			t.Fatal(Text(x, nil), Text(c, nil), ts, ms)
		}
		if !plainSame(x, before) {
			t.Fatal("changed")
		}
	}
	x := fun(data(3, tv(8), arr(tv(4))), mv(6), fun(tv(4), mv(2), fun(tv(0), mv(6), tv(8))))
	c, ts, ms := Canon(x)
	if Text(c, nil) != "#3 a0 (Arr a1) -m0> a1 -m1> a2 -m0> a0" || !slices.Equal(ts, []int{8, 4, 0}) || !slices.Equal(ms, []int{6, 2}) {
		t.Error(Text(c, nil), ts, ms)
	}
	c.L[0].L[0] = file
	c.L[0].L[1].L[0] = file
	if x.L[0].L[0].Kind != api.TVar || x.L[0].L[1].L[0].Kind != api.TVar {
		t.Error("the answer shares with the argument")
	}
	c, ts, _ = Canon(chain(1_000_000, tv(5)))
	if Size(c) != 1_000_001 || !slices.Equal(ts, []int{5}) {
		t.Error("deep")
	}
}

func TestP64Text(t *testing.T) {
	names := []string{"Bool", "List"}
	list := func(x api.Type) api.Type { return data(1, x) }
	for _, c := range []struct {
		t    api.Type
		want string
	}{
		{fun(tv(0), one, integer), "a0 -1> Int"},
		{fun(fun(tv(0), mv(2), tv(0)), many, list(list(tv(0)))), "(a0 -m2> a0) -*> List (List a0)"},
		{arr(data(0)), "Arr Bool"},
		{arr(arr(str)), "Arr (Arr Str)"},
		{tv(17), "a17"},
		{io, "Io"},
		{file, "File"},
		{fun(integer, affine, fun(str, mv(10), integer)), "Int -?> Str -m10> Int"},
		{fun(integer, one, fun(fun(io, one, io), one, integer)), "Int -1> (Io -1> Io) -1> Int"},
		{fun(arr(tv(0)), one, arr(tv(0))), "Arr a0 -1> Arr a0"},
		{fun(list(tv(0)), one, list(tv(0))), "List a0 -1> List a0"},
		{arr(fun(tv(0), one, tv(1))), "Arr (a0 -1> a1)"},
		{data(1, fun(tv(0), one, tv(1)), arr(integer), data(0), list(data(0)), tv(3)), "List (a0 -1> a1) (Arr Int) Bool (List Bool) a3"},
		{data(2), "#2"},
		{data(39, arr(data(5, data(4)))), "#39 (Arr (#5 #4))"},
		{arr(data(2)), "Arr #2"},
	} {
		if got := Text(c.t, names); got != c.want {
			t.Error(got, c.want)
		}
	}
	if got := Text(data(0, data(1)), nil); got != "#0 #1" {
		t.Error(got)
	}
	for _, x := range append(built(2), some(900, 9)...) {
		if got := Text(x, names); got != plainText(x, names) {
			t.Fatal(got, plainText(x, names))
		}
	}
}

func TestP65PutBehindPut(t *testing.T) {
	p := picks(11)
	for _, x := range append(built(2), some(600, 3)...) {
		// The first list has a place for each variable, as one that stays is put the second time.
		var first, second, both []api.Type
		var firstM, secondM, bothM []api.Mu
		for range 3 {
			second = append(second, p.grown(1+p.below(4), 6))
			secondM = append(secondM, []api.Mu{one, affine, many, mv(p.below(6))}[p.below(4)])
		}
		for range 9 {
			u := p.grown(1+p.below(4), 4)
			put, _ := Put(u, second, secondM)
			first, both = append(first, u), append(both, put)
			m := []api.Mu{one, affine, many, mv(p.below(4)), mv(p.below(4))}[p.below(5)]
			firstM, bothM = append(firstM, m), append(bothM, plainPut(fun(io, m, io), tv, multsOf(secondM)).M)
		}
		a, e := Put(x, first, firstM)
		if e != api.OK {
			continue
		}
		b, eb := Put(a, second, secondM)
		c, ec := Put(x, both, bothM)
		if eb != ec || !Same(b, c) {
			t.Fatal(Text(x, nil), Text(b, nil), Text(c, nil), eb, ec)
		}
	}
}

func TestP65TextsPart(t *testing.T) {
	names := []string{"A", "Pair", "Arr2", "Ints"}
	all := built(2)
	p := picks(5)
	for range 3000 {
		all = append(all, p.grown(1+p.below(9), 2))
	}
	of := map[string]api.Type{}
	for _, x := range all {
		s := Text(x, names)
		y, is := of[s]
		if is && !Same(x, y) {
			t.Fatal(s, x, y)
		}
		of[s] = x
	}
}

func TestR1WhateverTypes(t *testing.T) {
	p := picks(1)
	var wild func(depth int) api.Type
	wild = func(depth int) api.Type {
		x := api.Type{Kind: uint8(p.below(11)), N: p.below(60) - 10, M: api.Mu{V: p.below(5) - 2, C: api.Mult(p.below(6))}}
		if depth > 0 {
			for range p.below(4) {
				x.L = append(x.L, wild(depth-1))
			}
		}
		return x
	}
	for range 20_000 {
		x := wild(p.below(5))
		before := cloned(x)
		c, ts, ms := Canon(x)
		vs, us := Vars(x)
		if Size(c) != Size(x) || !slices.Equal(ts, vs) || !slices.Equal(ms, us) {
			t.Fatal(x)
		}
		Text(x, []string{"A"})
		Put(x, []api.Type{x}, []api.Mu{x.M})
		if e := May(x); Size(x) <= api.MaxType && (e == api.OK) != plainMay(x) {
			t.Fatal(x, e)
		}
		if !plainSame(x, before) {
			t.Fatal("changed")
		}
	}
	deep := chain(1_000_000, integer)
	if s := Text(deep, nil); !strings.HasPrefix(s, "Arr (Arr (Arr ") || len(s) != 6*1_000_000-2+3 {
		t.Error(len(s))
	}
}

// plainMay is the words of what a type is.
func plainMay(t api.Type) bool {
	leaf := func(u api.Type) bool { return u.N == 0 && u.M == api.Mu{} && len(u.L) == 0 }
	well := false
	switch t.Kind {
	case api.TVar:
		well = t.N >= 0 && t.N < 1<<20 && t.M == api.Mu{} && len(t.L) == 0
	case api.TInt, api.TStr, api.TIo, api.TFile:
		well = leaf(t)
	case api.TArr:
		well = t.N == 0 && t.M == api.Mu{} && len(t.L) == 1
	case api.TFun:
		m := t.M
		well = t.N == 0 && len(t.L) == 2 && (m.C == 0 && m.V >= 0 && m.V < 1<<20 || m.C >= 1 && m.C <= 3 && m.V == 0)
	case api.TData:
		well = t.N >= 0 && t.N < 40 && t.M == api.Mu{} && len(t.L) <= 4
	}
	return well && !slices.ContainsFunc(t.L, func(u api.Type) bool { return !plainMay(u) })
}
