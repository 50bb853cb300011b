package unify

import (
	"math/rand"
	"slices"
	"testing"

	"usufruct/api"
	"usufruct/ty"
)

// falling is n - 1 to 0.
func falling(n int) []int {
	l := rising(n)
	slices.Reverse(l)
	return l
}

func rising(n int) []int {
	var l []int
	for i := range n {
		l = append(l, i)
	}
	return l
}

// orders is several orders of the numbers below n.
func orders(n int) [][]int {
	return [][]int{rising(n), falling(n), rand.New(rand.NewSource(77)).Perm(n)}
}

// TestDeep: types that are far deeper than what is told, put together in any order; each one is still as it should be.
func TestDeep(t *testing.T) {
	const n = 50000
	for i, order := range orders(n) {
		s := New()
		for v := range n + 1 {
			s.Var(n - v + 1)
			s.Mult(n)
		}
		for _, v := range order {
			isErr(t, s.Unify(tvar(v), fun(intT, mvar(v), tvar(v+1))), api.OK)
		}
		if _, e := s.Type(tvar(0)); e != api.ErrBig {
			t.Error(i, e)
		}
		if _, e := s.Type(tvar(n - 150)); e != api.ErrBig {
			t.Error(i, e)
		}
		if x, e := s.Type(tvar(n - 149)); e != api.OK || ty.Size(x) != 299 {
			t.Error(i, ty.Size(x), e)
		}
		end := fun(tvar(n), mvar(n-1), intT)
		isLoose(t, s, end, 0, []int{n}, []int{n - 1})
		isLoose(t, s, end, 1, nil, []int{n - 1})
		isLoose(t, s, end, 2, nil, nil)
		isErr(t, s.Unify(tvar(n), arr(tvar(n))), api.ErrLoop)
		isErr(t, s.Unify(tvar(n), tvar(0)), api.ErrLoop)
		isErr(t, s.Unify(tvar(n), tvar(n-1)), api.ErrLoop)
		isErr(t, s.Unify(tvar(n), fun(intT, one, tvar(n/2))), api.ErrLoop)
		isErr(t, s.Unify(tvar(0), tvar(1)), api.ErrLoop)
		isErr(t, s.Unify(tvar(n), strT), api.OK)
		isErr(t, s.Unify(tvar(0), tvar(1)), api.ErrKind)
		isType(t, s, tvar(n-1), fun(intT, mvar(n-1), strT))
		isLoose(t, s, tvar(n-1), 1, nil, []int{n - 1})
	}
}

// TestDeepLevels: what is held from far above, and from further down.
func TestDeepLevels(t *testing.T) {
	const n = 50000
	for _, order := range orders(n) {
		s := New()
		for v := range n + 1 {
			s.Var(v + 1)
		}
		s.Mult(n)
		for _, v := range order {
			isErr(t, s.Unify(tvar(v), pair(tvar(v+1), tvar(v+1))), api.OK)
		}
		isLoose(t, s, tvar(n), 0, []int{n}, nil)
		isLoose(t, s, tvar(n), 1, nil, nil)
		isErr(t, s.Unify(tvar(n), fun(intT, mvar(0), strT)), api.OK)
		isLoose(t, s, fun(intT, mvar(0), intT), 0, nil, []int{0})
		isLoose(t, s, fun(intT, mvar(0), intT), 1, nil, nil)
	}
}

// twice lays two towers of types, in which each variable is a pair of the next ones, so that no one could write them.
func twice(t *testing.T, n int, first, second []int) *Store {
	s := stored(t, 2*(n+1), 0)
	for _, v := range first {
		isErr(t, s.Unify(tvar(v), pair(tvar(v+1), tvar(v+1))), api.OK)
	}
	for _, v := range second {
		isErr(t, s.Unify(tvar(n+1+v), pair(tvar(n+2+v), tvar(n+2+v))), api.OK)
	}
	return s
}

// TestTwice: two towers are the same, told at once or from one end to the other.
func TestTwice(t *testing.T) {
	const n = 4000
	for _, first := range orders(n) {
		for _, second := range orders(n) {
			s := twice(t, n, first, second)
			isErr(t, s.Unify(tvar(0), tvar(n+1)), api.OK)
			isType(t, s, tvar(2*n+1), tvar(n))
			if _, e := s.Type(tvar(n + 1)); e != api.ErrBig {
				t.Error(e)
			}
			isErr(t, s.Unify(tvar(2*n), tvar(n-2)), api.ErrLoop)
			isErr(t, s.Unify(tvar(2*n+1), intT), api.OK)
			isType(t, s, tvar(n), intT)
			for _, third := range orders(n + 1) {
				s := twice(t, n, first, second)
				for _, v := range third {
					isErr(t, s.Unify(tvar(n+1+v), tvar(v)), api.OK)
				}
				isType(t, s, tvar(2*n), pair(tvar(n), tvar(n)))
			}
		}
	}
}

// TestPutBack: P7.2, what is refused at the far end of much that was joined leaves all as it was.
func TestPutBack(t *testing.T) {
	const n = 20000
	s := twice(t, n, rising(n), falling(n))
	isErr(t, s.Unify(tvar(n), intT), api.OK)
	isErr(t, s.Unify(tvar(2*n+1), strT), api.OK)
	for range 20 {
		isErr(t, s.Unify(tvar(0), tvar(n+1)), api.ErrKind)
		isErr(t, s.Unify(tvar(n+2), tvar(0)), api.ErrKind)
	}
	for v := range n {
		if v%1000 != 0 {
			continue
		}
		isErr(t, s.Unify(tvar(v), tvar(n+1+v)), api.ErrKind)
	}
	isType(t, s, tvar(n-1), pair(intT, intT))
	isType(t, s, tvar(2*n), pair(strT, strT))

	s = twice(t, n, falling(n), rising(n))
	// The ends meet in a loop, and nothing but that is amiss.
	isErr(t, s.Unify(tvar(2*n+1), arr(tvar(n))), api.OK)
	for range 20 {
		isErr(t, s.Unify(tvar(n+1), tvar(0)), api.ErrLoop)
	}
	isType(t, s, tvar(n-1), pair(tvar(n), tvar(n)))
	isType(t, s, tvar(2*n), pair(arr(tvar(n)), arr(tvar(n))))
	isLoose(t, s, tvar(2*n), 0, []int{n}, nil)
}

// TestWide: a great many variables, of one class, or within one.
func TestWide(t *testing.T) {
	const n = 100000
	for _, order := range orders(n) {
		s := New()
		for v := range n + 2 {
			s.Var(v)
			s.Mult(v)
		}
		for _, v := range order {
			isErr(t, s.Unify(tvar(v), tvar(v+1)), api.OK)
			isErr(t, s.Equal(mvar(v+1), mvar(v)), api.OK)
		}
		isType(t, s, fun(tvar(n), mvar(n), tvar(n+1)), fun(tvar(0), mvar(0), tvar(n+1)))
		isLoose(t, s, fun(tvar(n), mvar(n), tvar(n+1)), n, []int{n + 1}, nil)
		isErr(t, s.Unify(tvar(n/2), intT), api.OK)
		isErr(t, s.Unify(tvar(n/3), strT), api.ErrKind)
		for _, v := range order {
			isType(t, s, tvar(v), intT)
		}

		s = stored(t, n+1, 0)
		for _, v := range order {
			isErr(t, s.Unify(tvar(v), arr(tvar(n))), api.OK)
		}
		isErr(t, s.Unify(tvar(n), tvar(n/2)), api.ErrLoop)
		for _, v := range order {
			isLoose(t, s, tvar(v), 0, []int{n}, nil)
		}
		isErr(t, s.Unify(tvar(n), intT), api.OK)
		isType(t, s, tvar(n-1), arr(intT))
	}
}

// TestSpine: what is told step by step, and has something deep within at each step.
func TestSpine(t *testing.T) {
	const n, deep = 20000, 20000
	s := stored(t, deep+n+2, 0)
	for v := range deep {
		isErr(t, s.Unify(tvar(v), arr(tvar(v+1))), api.OK)
	}
	first := deep + 1
	isErr(t, s.Unify(tvar(first), pair(tvar(first+1), tvar(0))), api.OK)
	for v := first + 1; v < first+n; v++ {
		isErr(t, s.Unify(tvar(v), fun(tvar(0), one, tvar(v+1))), api.OK)
	}
	isErr(t, s.Unify(tvar(deep), tvar(first)), api.ErrLoop)
	isErr(t, s.Unify(tvar(first+n), tvar(0)), api.OK)
	isErr(t, s.Unify(tvar(deep), tvar(first+n-1)), api.ErrLoop)
	isErr(t, s.Unify(tvar(first+n), tvar(first)), api.ErrKind)
}

// TestLateLoop: a way that was laid in several pieces, each in its own order, is a loop where its ends meet, however long the pieces are.
func TestLateLoop(t *testing.T) {
	for _, n := range []int{3, 10, 1000, api.MaxVars - 4} {
		s := stored(t, n+4, 0)
		isErr(t, s.Unify(tvar(n+1), arr(tvar(n+2))), api.OK)
		for v := range n {
			isErr(t, s.Unify(tvar(v), arr(tvar(v+1))), api.OK)
		}
		isErr(t, s.Unify(tvar(n), arr(tvar(n+1))), api.OK)
		for _, v := range []int{0, 1, n / 2, n - 2, n - 1, n, n + 1} {
			isErr(t, s.Unify(tvar(n+2), tvar(v)), api.ErrLoop)
			isErr(t, s.Unify(tvar(n+2), arr(tvar(v))), api.ErrLoop)
		}
		isErr(t, s.Unify(tvar(n+2), arr(tvar(n+3))), api.OK)
		isErr(t, s.Unify(tvar(n+3), tvar(n-2)), api.ErrLoop)
		isErr(t, s.Unify(tvar(n+3), intT), api.OK)
	}
}

// TestManySame: what tells nothing new is taken as often as one likes.
func TestManySame(t *testing.T) {
	s := stored(t, 4, 1)
	x := fun(tvar(0), mvar(0), data(3, tvar(1), arr(tvar(2))))
	for range 50000 {
		isErr(t, s.Unify(tvar(3), x), api.OK)
		isErr(t, s.Unify(x, x), api.OK)
		isErr(t, s.Unify(tvar(0), x), api.ErrLoop)
	}
	isType(t, s, tvar(3), x)
	if len(s.late) > 8 {
		t.Error("kept", len(s.late))
	}
}
