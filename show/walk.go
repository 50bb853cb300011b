package show

import (
	"iter"
	"slices"

	"usufruct/api"
)

// within goes over the trees of l and over all that stands in them, each with how many stand around it.
// What is still to be gone over is a list, as a tree that is handed in may be deeper than calls go.
func within[T any](l []T, kids func(T) []T) iter.Seq2[int, T] {
	return func(yield func(int, T) bool) {
		rest := [][]T{l}
		for len(rest) > 0 {
			around := len(rest) - 1
			if len(rest[around]) == 0 {
				rest = rest[:around]
				continue
			}
			x := rest[around][0]
			rest[around] = rest[around][1:]
			if !yield(around, x) {
				return
			}
			rest = append(rest, kids(x))
		}
	}
}

// depth is the greatest depth of l's trees, 0 without one; head is how deep a tree is without its kids.
func depth[T any](l []T, kids func(T) []T, head func(T) int) int {
	n := 0
	for around, x := range within(l, kids) {
		n = max(n, around+head(x))
	}
	return n
}

// same says whether the trees of a and b are the same, if alike says of two whether they are but for their kids.
func same[T any](a, b []T, kids func(T) []T, alike func(a, b T) bool) bool {
	rest := [][2][]T{{a, b}}
	for len(rest) > 0 {
		a, b := rest[len(rest)-1][0], rest[len(rest)-1][1]
		rest = rest[:len(rest)-1]
		if !slices.EqualFunc(a, b, alike) {
			return false
		}
		for i := range a {
			k, l := kids(a[i]), kids(b[i])
			if len(k) > 0 || len(l) > 0 {
				rest = append(rest, [2][]T{k, l})
			}
		}
	}
	return true
}

// exprKids is what x's L and Arms have of expressions.
func exprKids(x api.Expr) []api.Expr {
	if len(x.Arms) == 0 {
		return x.L
	}
	l := slices.Clone(x.L)
	for _, a := range x.Arms {
		l = append(l, a.E)
	}
	return l
}

// patterns is what x's Arms have of patterns.
func patterns(x api.Expr) []api.Pat {
	var l []api.Pat
	for _, a := range x.Arms {
		l = append(l, a.P)
	}
	return l
}

func patKids(x api.Pat) []api.Pat {
	return x.L
}

func tyKids(x api.Ty) []api.Ty {
	return x.L
}

// fieldTypes is the types of all fields of d.
func fieldTypes(d api.Decl) []api.Ty {
	var l []api.Ty
	for _, c := range d.Cons {
		for _, f := range c.Fields {
			l = append(l, f.T)
		}
	}
	return l
}

// headDepth is how deep x is with its patterns alone.
func headDepth(x api.Expr) int {
	return 1 + depth(patterns(x), patKids, leafDepth)
}

// leafDepth is how deep a tree is in which no other one stands.
func leafDepth[T any](T) int {
	return 1
}
