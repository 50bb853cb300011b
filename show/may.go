package show

import (
	"usufruct/api"
	"usufruct/lex"
)

// several is as many kids as one likes.
const several = -1

// rule is what a tree has: a token of its own of that kind, or none, if it is 0; and so many of L.
type rule struct {
	token uint8
	kids  int
}

// keeps says whether a tree with these has what r asks for.
func (r rule) keeps(s string, n int64, kids int) bool {
	if r.kids != several && r.kids != kids {
		return false
	}
	if r.token == 0 {
		return s == "" && n == 0
	}
	return isToken(api.Token{Kind: r.token, Text: s, N: n})
}

// exprRule is the rule for x's kind, if there is such a kind.
func exprRule(x api.Expr) (rule, bool) {
	switch x.Kind {
	case api.ExName:
		return rule{api.TkName, 0}, true
	case api.ExInt:
		return rule{api.TkInt, 0}, true
	case api.ExStr:
		return rule{api.TkStr, 0}, true
	case api.ExLam:
		return rule{api.TkName, 1}, true
	case api.ExApp:
		return rule{0, 2}, true
	case api.ExLet, api.ExRec:
		return rule{api.TkName, 2}, true
	case api.ExCase:
		return rule{0, 1}, true
	case api.ExCon:
		return rule{api.TkCon, several}, true
	case api.ExPrim:
		if isBetween(x.S) {
			return rule{api.TkSign, 2}, true
		}
		return rule{api.TkPrim, several}, true
	}
	return rule{}, false
}

// patRule is as exprRule is.
func patRule(x api.Pat) (rule, bool) {
	switch x.Kind {
	case api.PtName:
		return rule{api.TkName, 0}, true
	case api.PtAny:
		return rule{0, 0}, true
	case api.PtInt:
		return rule{api.TkInt, 0}, true
	case api.PtStr:
		return rule{api.TkStr, 0}, true
	case api.PtCon:
		return rule{api.TkCon, several}, true
	}
	return rule{}, false
}

// tyRule is as exprRule is.
func tyRule(x api.Ty) (rule, bool) {
	switch x.Kind {
	case api.TyName:
		return rule{api.TkName, 0}, true
	case api.TyCon:
		return rule{api.TkCon, several}, true
	case api.TyFun:
		return rule{0, 2}, true
	}
	return rule{}, false
}

// mayBe says whether the trees of l may be, with all that stands in them, and none is deeper than room;
// self says of one of them whether it may be but for its kids, where it may be as deep as that.
func mayBe[T any](room int, l []T, kids func(T) []T, self func(room int, x T) bool) bool {
	for around, x := range within(l, kids) {
		if around >= room || !self(room-around, x) {
			return false
		}
	}
	return true
}

func mayExpr(room int, x api.Expr) bool {
	r, ok := exprRule(x)
	return ok && r.keeps(x.S, x.N, len(x.L)) && (len(x.Arms) > 0) == (x.Kind == api.ExCase) &&
		mayBe(room-1, patterns(x), patKids, mayPat)
}

func mayPat(_ int, x api.Pat) bool {
	r, ok := patRule(x)
	return ok && r.keeps(x.S, x.N, len(x.L))
}

func mayTy(_ int, x api.Ty) bool {
	if x.Kind == api.TyFun && !isMult(x.M) || x.Kind != api.TyFun && x.M != 0 {
		return false
	}
	r, ok := tyRule(x)
	return ok && r.keeps(x.S, 0, len(x.L))
}

func mayDecl(d api.Decl) bool {
	switch d.Kind {
	case api.DcData:
		return mayData(d)
	case api.DcLet:
		return isToken(name(d.Name)) && len(d.Params) == 0 && len(d.Cons) == 0 &&
			mayBe(api.MaxDepth, []api.Expr{d.E}, exprKids, mayExpr)
	}
	return false
}

// mayData says whether d, which is one of a data type, may be.
func mayData(d api.Decl) bool {
	for _, p := range d.Params {
		if !isToken(name(p)) {
			return false
		}
	}
	for _, c := range d.Cons {
		if !mayCon(c) {
			return false
		}
	}
	return isToken(con(d.Name)) && len(d.Cons) > 0 && !d.Rec && SameExpr(d.E, api.Expr{})
}

func mayCon(c api.ConDecl) bool {
	for _, f := range c.Fields {
		if !isMult(f.M) || !mayBe(api.MaxDepth, []api.Ty{f.T}, tyKids, mayTy) {
			return false
		}
	}
	return isToken(con(c.Name))
}

func isMult(m api.Mult) bool {
	return m == api.One || m == api.Affine || m == api.Many
}

// isBetween says whether s is a sign that does something with what stands on its two sides.
func isBetween(s string) bool {
	switch s {
	case "<", "==", "++", "+", "-", "*", "/", "%":
		return true
	}
	return false
}

// isToken says whether t is a token; one that is too long to be written is one nevertheless.
func isToken(t api.Token) bool {
	_, e := lex.Write([]api.Token{t})
	return e != api.ErrArg
}
