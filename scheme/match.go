package scheme

import (
	"slices"

	"usufruct/api"
)

// puts is what is put at the variables of a type, as far as it is known.
type puts struct {
	types map[int]api.Type
	mults map[int]api.Mu
}

// match tells what comes to u if it is put at the variables of t, and whether something does. Alike says of two multiplicities whether they are the same.
func match(t, u api.Type, alike func(p, q api.Mu) bool) (puts, bool) {
	found := puts{map[int]api.Type{}, map[int]api.Mu{}}
	variable := func(n int, u api.Type) bool {
		was, is := found.types[n]
		if is {
			return held(was, u, isVar, alike)
		}
		found.types[n] = u
		return true
	}
	arrow := func(p, q api.Mu) bool {
		if p.C != 0 {
			return alike(p, q)
		}
		was, is := found.mults[p.V]
		if is {
			return alike(was, q)
		}
		found.mults[p.V] = q
		return true
	}
	return found, held(t, u, variable, arrow)
}

// held says whether t holds against u: each part of t against the one of u in that place. Variable is asked of what stands where t has a variable, arrow of the multiplicities of functions.
func held(t, u api.Type, variable func(n int, u api.Type) bool, arrow func(p, q api.Mu) bool) bool {
	var holds func(t, u api.Type) bool
	holds = func(t, u api.Type) bool {
		switch {
		case t.Kind == api.TVar:
			return variable(t.N, u)
		case t.Kind != u.Kind || t.N != u.N:
			return false
		case t.Kind == api.TFun && !arrow(t.M, u.M):
			return false
		}
		return slices.EqualFunc(t.L, u.L, holds)
	}
	return holds(t, u)
}

// isVar says whether u is the variable n.
func isVar(n int, u api.Type) bool {
	return u.Kind == api.TVar && u.N == n
}

// put is x of what is put at its variables.
func (p puts) put(x api.Ineq) api.Ineq {
	left := x.L
	if left.C == 0 {
		left = p.mults[left.V]
	}
	if x.R == alone {
		return api.Ineq{L: left, C: x.C, R: alone}
	}
	return below(left, x.C, p.mults[x.R])
}
