package show

import "usufruct/api"

// writer has the tokens of what is written so far. It is given nothing but what may be, which is never deeper than calls go.
type writer struct{ tokens []api.Token }

// put puts l behind the tokens so far. Each has a byte at least, so that beyond MaxText of them no more need be kept to tell that they are too long.
func (w *writer) put(l ...api.Token) {
	if len(w.tokens) <= api.MaxText {
		w.tokens = append(w.tokens, l...)
	}
}

func name(s string) api.Token {
	return api.Token{Kind: api.TkName, Text: s}
}

func con(s string) api.Token {
	return api.Token{Kind: api.TkCon, Text: s}
}

// sign is a sign, or a word of the language.
func sign(s string) api.Token {
	return api.Token{Kind: api.TkSign, Text: s}
}

func (w *writer) decl(d api.Decl) {
	if d.Kind == api.DcData {
		w.data(d)
		return
	}
	w.put(sign("let"))
	if d.Rec {
		w.put(sign("rec"))
	}
	w.put(name(d.Name), sign("="))
	w.expr(d.E)
}

func (w *writer) data(d api.Decl) {
	w.put(sign("data"), con(d.Name))
	for _, p := range d.Params {
		w.put(name(p))
	}
	ahead := sign("=")
	for _, c := range d.Cons {
		w.put(ahead, con(c.Name))
		for _, f := range c.Fields {
			w.put(often(f.M))
			bracket(w, aloneTy, w.ty, f.T)
		}
		ahead = sign("|")
	}
}

// often is how a field's multiplicity is written.
func often(m api.Mult) api.Token {
	switch m {
	case api.One:
		return api.Token{Kind: api.TkInt, N: 1}
	case api.Affine:
		return sign("?")
	}
	return sign("*")
}

// arrow is how the arrow of a type is written.
func arrow(m api.Mult) api.Token {
	switch m {
	case api.One:
		return sign("-1>")
	case api.Affine:
		return sign("-?>")
	}
	return sign("-*>")
}

// bracket writes the trees of l, in brackets those that may not stand alone.
func bracket[T any](w *writer, alone func(T) bool, write func(T), l ...T) {
	for _, x := range l {
		if alone(x) {
			write(x)
			continue
		}
		w.put(sign("("))
		write(x)
		w.put(sign(")"))
	}
}

func aloneExpr(x api.Expr) bool {
	switch x.Kind {
	case api.ExName, api.ExInt, api.ExStr:
		return true
	}
	return x.Kind == api.ExCon && len(x.L) == 0
}

// aloneFirst is what aloneExpr is of a function that is called: constructors would take what stands behind.
func aloneFirst(x api.Expr) bool {
	return aloneExpr(x) && x.Kind != api.ExCon
}

func alonePat(x api.Pat) bool {
	return x.Kind != api.PtCon || len(x.L) == 0
}

func aloneTy(x api.Ty) bool {
	return x.Kind == api.TyName || x.Kind == api.TyCon && len(x.L) == 0
}

func (w *writer) expr(x api.Expr) {
	switch x.Kind {
	case api.ExLam:
		w.put(sign(`\`), name(x.S), sign("->"))
		w.expr(x.L[0])
	case api.ExLet:
		w.bound(x, sign("let"))
	case api.ExRec:
		w.bound(x, sign("let"), sign("rec"))
	case api.ExCase:
		w.cases(x)
	case api.ExApp:
		bracket(w, aloneFirst, w.expr, x.L[0])
		bracket(w, aloneExpr, w.expr, x.L[1])
	default:
		w.headed(x)
	}
}

// bound writes what x binds and where, with the words that stand ahead.
func (w *writer) bound(x api.Expr, words ...api.Token) {
	w.put(words...)
	w.put(name(x.S), sign("="))
	w.expr(x.L[0])
	w.put(sign("in"))
	w.expr(x.L[1])
}

func (w *writer) cases(x api.Expr) {
	w.put(sign("case"))
	w.expr(x.L[0])
	w.put(sign("of"))
	ahead := sign("{")
	for _, a := range x.Arms {
		w.put(ahead)
		w.pat(a.P)
		w.put(sign("->"))
		w.expr(a.E)
		ahead = sign(";")
	}
	w.put(sign("}"))
}

// headed writes x, which has a token of its own, and its kids behind that, or around it.
func (w *writer) headed(x api.Expr) {
	r, _ := exprRule(x)
	own := api.Token{Kind: r.token, Text: x.S, N: x.N}
	if own.Kind == api.TkSign {
		bracket(w, aloneExpr, w.expr, x.L[0])
		w.put(own)
		bracket(w, aloneExpr, w.expr, x.L[1])
		return
	}
	w.put(own)
	bracket(w, aloneExpr, w.expr, x.L...)
}

func (w *writer) pat(x api.Pat) {
	if x.Kind == api.PtAny {
		w.put(sign("_"))
		return
	}
	r, _ := patRule(x)
	w.put(api.Token{Kind: r.token, Text: x.S, N: x.N})
	bracket(w, alonePat, w.pat, x.L...)
}

func (w *writer) ty(x api.Ty) {
	if x.Kind == api.TyFun {
		bracket(w, aloneTy, w.ty, x.L[0])
		w.put(arrow(x.M))
		bracket(w, aloneTy, w.ty, x.L[1])
		return
	}
	r, _ := tyRule(x)
	w.put(api.Token{Kind: r.token, Text: x.S})
	bracket(w, aloneTy, w.ty, x.L...)
}
