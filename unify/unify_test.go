package unify

import (
	"math"
	"math/rand"
	"slices"
	"testing"

	"usufruct/api"
	"usufruct/ty"
)

var (
	intT = word(api.TInt)
	strT = word(api.TStr)
	one  = mult(api.One)
	aff  = mult(api.Affine)
	many = mult(api.Many)
)

// stored is a store with so many variables, all of level 1.
func stored(t testing.TB, types, mults int) *Store {
	t.Helper()
	s := New()
	for range types {
		if _, e := s.Var(1); e != api.OK {
			t.Fatal(e)
		}
	}
	for range mults {
		if _, e := s.Mult(1); e != api.OK {
			t.Fatal(e)
		}
	}
	return s
}

func isType(t testing.TB, s *Store, of, want api.Type) {
	t.Helper()
	if got, e := s.Type(of); e != api.OK || !ty.Same(got, want) {
		t.Errorf("Type of %s: %s %d, not %s", ty.Text(of, nil), ty.Text(got, nil), e, ty.Text(want, nil))
	}
}

func isLoose(t testing.TB, s *Store, of api.Type, level int, wantT, wantM []int) {
	t.Helper()
	types, mults, e := s.Loose(of, level)
	if e != api.OK || !slices.Equal(types, wantT) || !slices.Equal(mults, wantM) {
		t.Errorf("Loose of %s at %d: %v %v %d, not %v %v", ty.Text(of, nil), level, types, mults, e, wantT, wantM)
	}
}

func isErr(t testing.TB, e, want api.Errno) {
	t.Helper()
	if e != want {
		t.Errorf("%d, not %d", e, want)
	}
}

// TestExamples: the chapter's examples.
func TestExamples(t *testing.T) {
	a, b, c := tvar(0), tvar(1), tvar(2)
	s := stored(t, 3, 2)
	isErr(t, s.Unify(fun(a, mvar(0), intT), fun(strT, one, b)), api.OK)
	isType(t, s, a, strT)
	isType(t, s, b, intT)
	if m, e := s.Mu(mvar(0)); m != one || e != api.OK {
		t.Error(m, e)
	}
	s = stored(t, 3, 0)
	isErr(t, s.Unify(a, arr(b)), api.OK)
	isErr(t, s.Unify(b, c), api.OK)
	isType(t, s, a, arr(b))
	s = stored(t, 3, 0)
	isErr(t, s.Unify(a, arr(b)), api.OK)
	isErr(t, s.Unify(b, arr(a)), api.ErrLoop)
	isType(t, s, b, b)
	s = stored(t, 3, 0)
	isErr(t, s.Unify(fun(a, one, a), fun(intT, aff, strT)), api.ErrKind)
	isErr(t, s.Unify(fun(a, one, a), fun(intT, aff, intT)), api.ErrMult)
	isType(t, s, a, a)
}

// TestVars: P7.1, ordinary ones.
func TestVars(t *testing.T) {
	s := New()
	if n, k := s.Count(); n != 0 || k != 0 {
		t.Error(n, k)
	}
	for i, level := range []int{0, 5, -3, math.MaxInt, math.MinInt} {
		if v, e := s.Var(level); e != api.OK || !ty.Same(v, tvar(i)) {
			t.Error(v, e)
		}
		if n, k := s.Count(); n != i+1 || k != 0 {
			t.Error(n, k)
		}
	}
	for i, level := range []int{math.MinInt, 2} {
		if m, e := s.Mult(level); e != api.OK || m != mvar(i) {
			t.Error(m, e)
		}
		if n, k := s.Count(); n != 5 || k != i+1 {
			t.Error(n, k)
		}
	}
	isErr(t, s.Unify(tvar(0), arr(tvar(1))), api.OK)
	if v, e := s.Var(1); e != api.OK || !ty.Same(v, tvar(5)) {
		t.Error(v, e)
	}
}

// TestFull: P7.1, as many variables as there may be, and one past it.
func TestFull(t *testing.T) {
	s := stored(t, api.MaxVars, 2)
	if v, e := s.Var(1); e != api.ErrFull || !ty.Same(v, api.Type{}) {
		t.Error(v, e)
	}
	if n, k := s.Count(); n != api.MaxVars || k != 2 {
		t.Error(n, k)
	}
	last := tvar(api.MaxVars - 1)
	isErr(t, s.Unify(last, arr(tvar(0))), api.OK)
	isType(t, s, last, arr(tvar(0)))
	if m, e := s.Mult(1); e != api.OK || m != mvar(2) {
		t.Error(m, e)
	}
	s = stored(t, 1, api.MaxVars)
	if m, e := s.Mult(1); e != api.ErrFull || m != (api.Mu{}) {
		t.Error(m, e)
	}
	isErr(t, s.Equal(mvar(api.MaxVars-1), mvar(7)), api.OK)
	if m, e := s.Mu(mvar(api.MaxVars - 1)); e != api.OK || m != mvar(7) {
		t.Error(m, e)
	}
	if v, e := s.Var(1); e != api.OK || !ty.Same(v, tvar(1)) {
		t.Error(v, e)
	}
}

// TestNil: of a nil store ErrNil, ahead of all else.
func TestNil(t *testing.T) {
	var s *Store
	bad := api.Type{Kind: 99}
	if n, k := s.Count(); n != 0 || k != 0 {
		t.Error(n, k)
	}
	if v, e := s.Var(1); e != api.ErrNil || !ty.Same(v, api.Type{}) {
		t.Error(v, e)
	}
	if m, e := s.Mult(1); e != api.ErrNil || m != (api.Mu{}) {
		t.Error(m, e)
	}
	for _, x := range []api.Type{intT, bad} {
		isErr(t, s.Unify(x, x), api.ErrNil)
		if v, e := s.Type(x); e != api.ErrNil || !ty.Same(v, api.Type{}) {
			t.Error(v, e)
		}
		if types, mults, e := s.Loose(x, 1); e != api.ErrNil || len(types)+len(mults) != 0 {
			t.Error(types, mults, e)
		}
	}
	for _, m := range []api.Mu{one, {V: -1}} {
		isErr(t, s.Equal(m, m), api.ErrNil)
		if got, e := s.Mu(m); e != api.ErrNil || got != (api.Mu{}) {
			t.Error(got, e)
		}
	}
}

// deepArr is a type of so many nodes.
func deepArr(nodes int) api.Type {
	t := intT
	for range nodes - 1 {
		t = arr(t)
	}
	return t
}

// TestArg: ErrArg of what is not the store's, on either side and at any depth, and nothing is changed.
func TestArg(t *testing.T) {
	round := []api.Type{{Kind: api.TArr}}
	round[0].L = round
	bad := []api.Type{
		{}, {Kind: 9}, tvar(-1), tvar(2), tvar(api.MaxVars), tvar(math.MinInt), tvar(math.MaxInt),
		{Kind: api.TInt, N: 1}, {Kind: api.TArr}, {Kind: api.TFun, M: one, L: []api.Type{intT}},
		fun(intT, mvar(2), intT), fun(intT, mvar(-1), intT), fun(intT, api.Mu{V: 1, C: api.One}, intT), fun(intT, mult(4), intT),
		data(-1), data(api.MaxDatas), data(0, intT, intT, intT, intT, intT),
		{Kind: api.TArr, M: one, L: []api.Type{intT}}, deepArr(api.MaxType + 1), round[0],
	}
	s := stored(t, 2, 2)
	for i, x := range bad {
		for _, y := range []api.Type{x, arr(x), fun(x, one, intT), data(3, intT, x)} {
			isErr(t, s.Unify(y, tvar(0)), api.ErrArg)
			isErr(t, s.Unify(tvar(0), y), api.ErrArg)
			isErr(t, s.Unify(y, y), api.ErrArg)
			if got, e := s.Type(y); e != api.ErrArg || !ty.Same(got, api.Type{}) {
				t.Error(i, got, e)
			}
			if types, mults, e := s.Loose(y, 0); e != api.ErrArg || len(types)+len(mults) != 0 {
				t.Error(i, types, mults, e)
			}
		}
	}
	for _, m := range []api.Mu{{V: 2}, {V: -1}, {V: api.MaxVars}, {C: 4}, {C: 255}, {V: 1, C: api.Many}, {V: math.MinInt}} {
		isErr(t, s.Equal(m, mvar(0)), api.ErrArg)
		isErr(t, s.Equal(mvar(0), m), api.ErrArg)
		isErr(t, s.Equal(m, m), api.ErrArg)
		if got, e := s.Mu(m); e != api.ErrArg || got != (api.Mu{}) {
			t.Error(m, got, e)
		}
	}
	// ErrArg goes ahead of what is amiss.
	isErr(t, s.Unify(pair(intT, tvar(2)), pair(strT, intT)), api.ErrArg)
	isType(t, s, tvar(0), tvar(0))
	if m, e := s.Mu(mvar(0)); e != api.OK || m != mvar(0) {
		t.Error(m, e)
	}
}

// TestAmiss: P7.2, what is told of several things that are amiss, and that nothing is changed then.
func TestAmiss(t *testing.T) {
	a, b, c := tvar(0), tvar(1), tvar(2)
	kind := pair(intT, strT)
	for _, x := range []struct {
		l, r api.Type
		e    api.Errno
	}{
		{intT, strT, api.ErrKind},
		{arr(a), intT, api.ErrKind},
		{arr(a), data(3, a), api.ErrKind},
		{data(3, a), data(4, a), api.ErrKind},
		{data(3, a), data(3, a, a), api.ErrKind},
		{data(3), data(3, a), api.ErrKind},
		{fun(a, one, a), arr(a), api.ErrKind},
		{fun(a, one, b), fun(a, aff, b), api.ErrMult},
		{pair(a, a), kind, api.ErrKind},
		{a, arr(a), api.ErrLoop},
		{arr(a), a, api.ErrLoop},
		{a, fun(b, one, pair(intT, a)), api.ErrLoop},
		{pair(a, b), pair(arr(b), arr(a)), api.ErrLoop},
		// Each one goes ahead of those behind it, in whichever order they are come to.
		{pair(a, pair(fun(a, one, a), c)), pair(arr(a), pair(fun(a, many, a), intT)), api.ErrMult},
		{pair(pair(fun(a, one, a), c), a), pair(pair(fun(a, many, a), intT), arr(a)), api.ErrMult},
		{pair(a, pair(intT, c)), pair(arr(a), pair(strT, c)), api.ErrKind},
		{pair(pair(intT, c), a), pair(pair(strT, c), arr(a)), api.ErrKind},
		{pair(fun(a, one, a), intT), pair(fun(a, many, a), strT), api.ErrKind},
		{pair(intT, fun(a, one, a)), pair(strT, fun(a, many, a)), api.ErrKind},
		// What is amiss is seen behind a loop, and through multiplicities that were two already.
		{pair(pair(a, b), a), pair(pair(arr(arr(a)), arr(arr(arr(b)))), b), api.ErrLoop},
		{pair(pair(a, b), pair(a, c)), pair(pair(pair(intT, a), pair(c, b)), pair(b, strT)), api.ErrKind},
		{pair(fun(a, one, pair(b, c)), pair(b, c)), pair(fun(a, aff, pair(intT, strT)), pair(strT, intT)), api.ErrKind},
	} {
		s := stored(t, 3, 2)
		isErr(t, s.Unify(c, pair(intT, intT)), api.OK)
		isErr(t, s.Unify(c, intT), api.ErrKind)
		s = stored(t, 3, 2)
		for range 2 {
			if e := s.Unify(x.l, x.r); e != x.e {
				t.Errorf("%s = %s: %d, not %d", ty.Text(x.l, nil), ty.Text(x.r, nil), e, x.e)
			}
			if e := s.Unify(x.r, x.l); e != x.e {
				t.Errorf("%s = %s: %d, not %d", ty.Text(x.r, nil), ty.Text(x.l, nil), e, x.e)
			}
		}
		for v := range 3 {
			isType(t, s, tvar(v), tvar(v))
			isLoose(t, s, tvar(v), 0, []int{v}, nil)
		}
		// What was amiss is gone: these are as free as ever.
		isErr(t, s.Unify(pair(a, pair(b, c)), pair(intT, pair(strT, arr(intT)))), api.OK)
	}
}

// TestEqual: P7.2 and P7.3 of multiplicities.
func TestEqual(t *testing.T) {
	s := stored(t, 1, 6)
	for _, x := range []struct {
		l, r api.Mu
		e    api.Errno
	}{
		{one, one, api.OK}, {one, aff, api.ErrMult}, {many, aff, api.ErrMult},
		{mvar(5), mvar(3), api.OK}, {mvar(4), mvar(5), api.OK}, {mvar(4), mvar(4), api.OK},
		{mvar(0), aff, api.OK}, {aff, mvar(1), api.OK}, {mvar(0), mvar(1), api.OK},
		{mvar(0), one, api.ErrMult}, {many, mvar(1), api.ErrMult},
		{mvar(2), many, api.OK}, {mvar(2), mvar(1), api.ErrMult}, {mvar(1), mvar(2), api.ErrMult},
	} {
		if e := s.Equal(x.l, x.r); e != x.e {
			t.Error(x, e)
		}
	}
	for v, want := range []api.Mu{aff, aff, many, mvar(3), mvar(3), mvar(3)} {
		if m, e := s.Mu(mvar(v)); e != api.OK || m != want {
			t.Error(v, m, e)
		}
	}
	for c := api.One; c <= api.Many; c++ {
		if m, e := s.Mu(mult(c)); e != api.OK || m != mult(c) {
			t.Error(c, m, e)
		}
	}
	isType(t, s, fun(tvar(0), mvar(5), fun(intT, mvar(1), intT)), fun(tvar(0), mvar(3), fun(intT, aff, intT)))
	// Equations of types and of multiplicities meet.
	isErr(t, s.Unify(tvar(0), fun(intT, mvar(4), intT)), api.OK)
	isErr(t, s.Unify(tvar(0), fun(intT, many, intT)), api.OK)
	if m, e := s.Mu(mvar(5)); e != api.OK || m != many {
		t.Error(m, e)
	}
	isErr(t, s.Equal(mvar(3), mvar(0)), api.ErrMult)
}

// TestBig: P7.3, as many nodes as there may be, and one past it.
func TestBig(t *testing.T) {
	s := stored(t, 4, 1)
	isErr(t, s.Unify(tvar(0), deepArr(api.MaxType)), api.OK)
	isType(t, s, tvar(0), deepArr(api.MaxType))
	isErr(t, s.Unify(tvar(1), arr(tvar(0))), api.OK)
	for _, x := range []api.Type{tvar(1), arr(tvar(0)), pair(tvar(2), tvar(0))} {
		if got, e := s.Type(x); e != api.ErrBig || !ty.Same(got, api.Type{}) {
			t.Error(got, e)
		}
		if types, mults, e := s.Loose(x, 0); e != api.ErrBig || len(types)+len(mults) != 0 {
			t.Error(types, mults, e)
		}
	}
	// What is too big to be told is still the same or not.
	isErr(t, s.Unify(tvar(2), tvar(1)), api.OK)
	isErr(t, s.Unify(tvar(2), tvar(0)), api.ErrKind)
	isErr(t, s.Unify(tvar(3), arr(tvar(2))), api.OK)
	isErr(t, s.Unify(tvar(3), tvar(1)), api.ErrKind)
	isType(t, s, tvar(0), deepArr(api.MaxType))

	s = stored(t, 2, 0)
	half := pair(tvar(1), tvar(1))
	isErr(t, s.Unify(tvar(0), pair(half, half)), api.OK)
	isErr(t, s.Unify(tvar(1), deepArr(74)), api.OK)
	if got, e := s.Type(tvar(0)); e != api.OK || ty.Size(got) != 4*74+3 {
		t.Error(ty.Size(got), e)
	}
	if got, e := s.Type(arr(tvar(0))); e != api.OK || ty.Size(got) != api.MaxType {
		t.Error(ty.Size(got), e)
	}
	if _, e := s.Type(arr(arr(tvar(0)))); e != api.ErrBig {
		t.Error(e)
	}
}

// TestLoose: P7.4.
func TestLoose(t *testing.T) {
	s := New()
	for _, level := range []int{1, 2, 3, 2, math.MaxInt, math.MinInt} {
		s.Var(level)
	}
	for _, level := range []int{1, 2, 3} {
		s.Mult(level)
	}
	a, b, c, d := tvar(0), tvar(1), tvar(2), tvar(3)
	all := fun(c, mvar(2), fun(b, mvar(0), fun(a, mvar(1), c)))
	isLoose(t, s, all, 0, []int{2, 1, 0}, []int{2, 0, 1})
	isLoose(t, s, all, 1, []int{2, 1}, []int{2, 1})
	isLoose(t, s, all, 2, []int{2}, []int{2})
	isLoose(t, s, all, 3, nil, nil)
	isLoose(t, s, tvar(4), math.MaxInt-1, []int{4}, nil)
	isLoose(t, s, tvar(4), math.MaxInt, nil, nil)
	isLoose(t, s, tvar(5), math.MinInt, nil, nil)
	isLoose(t, s, tvar(4), math.MinInt, []int{4}, nil)

	// A lower one of the class holds, though it isn't the one that is told.
	isErr(t, s.Unify(c, d), api.OK)
	isLoose(t, s, d, 2, nil, nil)
	isLoose(t, s, d, 1, []int{2}, nil)
	isErr(t, s.Equal(mvar(2), mvar(1)), api.OK)
	isLoose(t, s, fun(intT, mvar(2), intT), 1, nil, []int{1})
	isLoose(t, s, fun(intT, mvar(2), intT), 2, nil, nil)

	// What stands within what is held is held too, types and multiplicities, at any depth.
	isErr(t, s.Unify(a, arr(fun(intT, mvar(1), b))), api.OK)
	isLoose(t, s, b, 1, nil, nil)
	isLoose(t, s, b, 0, []int{1}, nil)
	isLoose(t, s, a, 1, nil, nil)
	isLoose(t, s, a, 0, []int{1}, []int{1})
	isLoose(t, s, c, 1, []int{2}, nil)
	isErr(t, s.Unify(b, pair(d, intT)), api.OK)
	isLoose(t, s, c, 1, nil, nil)
	isLoose(t, s, c, 0, []int{2}, nil)
	isErr(t, s.Unify(tvar(5), a), api.OK)
	isLoose(t, s, a, math.MinInt, nil, nil)
	isLoose(t, s, d, math.MinInt, nil, nil)
	isLoose(t, s, tvar(4), math.MinInt, []int{4}, nil)
}

// TestLooseRefused: what was refused holds nothing, and neither does what stands in no variable's class.
func TestLooseRefused(t *testing.T) {
	s := New()
	for _, level := range []int{1, 3, 3} {
		s.Var(level)
	}
	s.Mult(3)
	isErr(t, s.Unify(pair(tvar(0), tvar(1)), pair(arr(fun(tvar(1), mvar(0), tvar(2))), intT)), api.OK)
	isLoose(t, s, fun(tvar(2), mvar(0), tvar(2)), 1, nil, nil)
	for _, bad := range []api.Type{strT, arr(arr(tvar(0)))} {
		s = New()
		for _, level := range []int{1, 3, 3} {
			s.Var(level)
		}
		s.Mult(3)
		isErr(t, s.Unify(tvar(2), arr(tvar(1))), api.OK)
		x := pair(tvar(0), pair(tvar(0), arr(tvar(0))))
		y := pair(arr(tvar(2)), pair(arr(arr(fun(intT, mvar(0), intT))), bad))
		if e := s.Unify(x, y); e == api.OK {
			t.Error(ty.Text(bad, nil))
		}
		isLoose(t, s, fun(tvar(2), mvar(0), tvar(1)), 2, []int{1}, []int{0})
		isLoose(t, s, tvar(2), 2, []int{1}, nil)
		isErr(t, s.Unify(arr(tvar(2)), arr(arr(tvar(1)))), api.OK)
		isLoose(t, s, tvar(2), 2, []int{1}, nil)
	}
}

// TestModel: P7.1 to P7.4, against the words done plainly.
func TestModel(t *testing.T) {
	r := rand.New(rand.NewSource(7))
	seen := map[api.Errno]int{}
	for range 4000 {
		b := newBoth(t, anyLevels(r, 6), anyLevels(r, 4))
		types, mults := len(b.m.types), len(b.m.mults)
		for range 2 + r.Intn(8) {
			if r.Intn(4) == 0 {
				seen[b.equal(anyMu(r, mults), anyMu(r, mults))]++
				continue
			}
			x, y := anyType(r, r.Intn(4), types, mults), anyType(r, r.Intn(4), types, mults)
			seen[b.unify(x, y)]++
			if r.Intn(2) == 0 {
				b.hold()
			}
		}
		b.hold(anyType(r, 3, types, mults), anyType(r, 2, types, mults))
	}
	for _, e := range []api.Errno{api.OK, api.ErrKind, api.ErrLoop, api.ErrMult} {
		if seen[e] < 300 {
			t.Error("too few of", e, seen)
		}
	}
}

// TestModelPairs: likewise, where all is of few makes, so that much is taken, and what is told is big.
func TestModelPairs(t *testing.T) {
	r := rand.New(rand.NewSource(70))
	seen := map[api.Errno]int{}
	for range 1500 {
		types, mults := 3+r.Intn(8), 1+r.Intn(4)
		var levelsT, levelsM []int
		for range types {
			levelsT = append(levelsT, r.Intn(4))
		}
		for range mults {
			levelsM = append(levelsM, r.Intn(4))
		}
		b := newBoth(t, levelsT, levelsM)
		mu := func() api.Mu {
			if r.Intn(3) == 0 {
				return anyMu(r, 0)
			}
			return mvar(r.Intn(mults))
		}
		var some func(deep int) api.Type
		some = func(deep int) api.Type {
			if deep == 0 || r.Intn(3) == 0 {
				return tvar(r.Intn(types))
			}
			return fun(some(deep-1), mu(), some(deep-1))
		}
		for range 2 + r.Intn(12) {
			seen[b.unify(some(r.Intn(2)), some(r.Intn(3)))]++
			if r.Intn(3) == 0 {
				b.hold()
			}
		}
		b.hold(some(2))
	}
	for _, e := range []api.Errno{api.OK, api.ErrLoop, api.ErrMult} {
		if seen[e] < 300 {
			t.Error("too few of", e, seen)
		}
	}
}

// TestModelBig: likewise, where each variable is twice the next one, or thereabouts: what is told goes up to what is too big.
func TestModelBig(t *testing.T) {
	r := rand.New(rand.NewSource(71))
	for range 60 {
		levels := make([]int, 11)
		for i := range levels {
			levels[i] = r.Intn(4)
		}
		b := newBoth(t, levels, nil)
		for _, v := range r.Perm(10) {
			x := pair(tvar(v+1), tvar(min(10, v+1+r.Intn(2))))
			if r.Intn(6) == 0 {
				x = arr(tvar(v + 1))
			}
			b.unify(tvar(v), x)
		}
		b.hold()
		b.unify(tvar(r.Intn(11)), tvar(r.Intn(11)))
		b.hold()
	}
}

// TestSolution: P7.5, equations that hold of some types and multiplicities, in any order.
func TestSolution(t *testing.T) {
	r := rand.New(rand.NewSource(75))
	for range 3000 {
		types, mults := 1+r.Intn(8), 1+r.Intn(4)
		s := stored(t, types, mults)
		var asT []api.Type
		var asM []api.Mu
		for range types {
			asT = append(asT, anyType(r, r.Intn(3), 0, 0))
		}
		for range mults {
			asM = append(asM, mult(api.Mult(1+r.Intn(3))))
		}
		vague := vaguely(r, asT, asM)
		for range 1 + r.Intn(12) {
			x := anyType(r, 2, types, mults)
			whole, e := ty.Put(x, asT, asM)
			if e != api.OK {
				t.Fatal(e)
			}
			isErr(t, s.Unify(x, vague(whole)), api.OK)
			if k, l := r.Intn(mults), r.Intn(mults); asM[k] == asM[l] {
				isErr(t, s.Equal(mvar(k), mvar(l)), api.OK)
			} else if r.Intn(2) == 0 {
				isErr(t, s.Equal(asM[k], mvar(k)), api.OK)
			}
		}
		for v, want := range asT {
			got, e := s.Type(tvar(v))
			if e != api.OK {
				t.Fatal(e)
			}
			if put, e := ty.Put(got, asT, asM); e != api.OK || !ty.Same(put, want) {
				t.Fatal(ty.Text(put, nil), ty.Text(want, nil), e)
			}
		}
		for v, want := range asM {
			m, e := s.Mu(mvar(v))
			if m.C == 0 {
				m = asM[m.V]
			}
			if e != api.OK || m != want {
				t.Fatal(m, want, e)
			}
		}
	}
}

// vaguely puts variables back, here and there, for what they stand for.
func vaguely(r *rand.Rand, asT []api.Type, asM []api.Mu) func(api.Type) api.Type {
	var vague func(api.Type) api.Type
	vague = func(t api.Type) api.Type {
		for _, v := range r.Perm(len(asT)) {
			if r.Intn(2) == 0 && ty.Same(asT[v], t) {
				return tvar(v)
			}
		}
		u := api.Type{Kind: t.Kind, N: t.N, M: t.M}
		for _, x := range t.L {
			u.L = append(u.L, vague(x))
		}
		for v, m := range asM {
			if t.Kind == api.TFun && r.Intn(2) == 0 && m == t.M {
				u.M = mvar(v)
			}
		}
		return u
	}
	return vague
}

// TestAgain: P7.5, what was refused is refused again, whatever is taken later.
func TestAgain(t *testing.T) {
	r := rand.New(rand.NewSource(76))
	for range 2000 {
		types, mults := 1+r.Intn(5), 1+r.Intn(3)
		s := stored(t, types, mults)
		var no [][2]api.Type
		var noMu [][2]api.Mu
		for range 12 {
			x, y := anyType(r, r.Intn(3), types, mults), anyType(r, r.Intn(3), types, mults)
			if s.Unify(x, y) != api.OK {
				no = append(no, [2]api.Type{x, y})
			}
			m, n := anyMu(r, mults), anyMu(r, mults)
			if s.Equal(m, n) != api.OK {
				noMu = append(noMu, [2]api.Mu{m, n})
			}
		}
		for _, x := range no {
			if s.Unify(x[0], x[1]) == api.OK {
				t.Fatal(ty.Text(x[0], nil), ty.Text(x[1], nil))
			}
		}
		for _, x := range noMu {
			if s.Equal(x[0], x[1]) == api.OK {
				t.Fatal(x)
			}
		}
	}
}

// TestShared: R3, what is handed in is neither changed nor kept, and answers share no lists.
func TestShared(t *testing.T) {
	s := stored(t, 3, 1)
	in := arr(pair(tvar(1), fun(tvar(1), mvar(0), intT)))
	was, _ := ty.Put(in, nil, nil)
	isErr(t, s.Unify(tvar(0), in), api.OK)
	isErr(t, s.Unify(tvar(1), arr(intT)), api.OK)
	if !ty.Same(in, was) {
		t.Error("handed in")
	}
	in.L[0].L[0] = strT
	in.L[0].L[1].L[1] = strT
	in.L[0] = strT
	want := arr(pair(arr(intT), fun(arr(intT), mvar(0), intT)))
	isType(t, s, tvar(0), want)
	got, _ := s.Type(pair(tvar(1), tvar(1)))
	got.L[0].L[0] = strT
	if !ty.Same(got, pair(arr(strT), arr(intT))) {
		t.Error("answered")
	}
	asked := pair(intT, arr(strT))
	got, _ = s.Type(asked)
	got.L[1].L[0] = intT
	if !ty.Same(asked, pair(intT, arr(strT))) {
		t.Error("asked")
	}
	got, _ = s.Type(tvar(0))
	got.L[0].L[0].L[0] = strT
	isType(t, s, tvar(0), want)
	types, mults, _ := s.Loose(fun(tvar(2), mvar(0), tvar(2)), 0)
	types[0], mults[0] = 9, 9
	isLoose(t, s, fun(tvar(2), mvar(0), tvar(2)), 0, []int{2}, []int{0})
}
