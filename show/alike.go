package show

import (
	"slices"

	"usufruct/api"
)

// alikeExprs says whether a and b are the same but for places and kids. Two with as many kids and as many patterns have as many of L.
func alikeExprs(a, b api.Expr) bool {
	return a.Kind == b.Kind && a.S == b.S && a.N == b.N && same(patterns(a), patterns(b), patKids, alikePats)
}

// alikePats is as alikeExprs is.
func alikePats(a, b api.Pat) bool {
	return a.Kind == b.Kind && a.S == b.S && a.N == b.N
}

// alikeTys is as alikeExprs is.
func alikeTys(a, b api.Ty) bool {
	return a.Kind == b.Kind && a.S == b.S && a.M == b.M
}

func alikeFields(a, b api.Field) bool {
	return a.M == b.M && same([]api.Ty{a.T}, []api.Ty{b.T}, tyKids, alikeTys)
}

func alikeCons(a, b api.ConDecl) bool {
	return a.Name == b.Name && slices.EqualFunc(a.Fields, b.Fields, alikeFields)
}

func alikeDecls(a, b api.Decl) bool {
	return a.Kind == b.Kind && a.Name == b.Name && slices.Equal(a.Params, b.Params) &&
		slices.EqualFunc(a.Cons, b.Cons, alikeCons) && a.Rec == b.Rec && SameExpr(a.E, b.E)
}
