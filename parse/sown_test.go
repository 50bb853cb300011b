package parse

import (
	"strconv"
	"strings"

	"usufruct/api"
)

// dice is a row of numbers, the same each time.
type dice struct{ n uint64 }

func (d *dice) below(k int) int {
	d.n = d.n*6364136223846793005 + 1442695040888963407
	return int(d.n >> 33 % uint64(k))
}

func (d *dice) pick(l ...string) string { return l[d.below(len(l))] }

// someOf is a few of what f tells, k at most.
func someOf[T any](d *dice, k int, f func() T) []T {
	var l []T
	for range d.below(k + 1) {
		l = append(l, f())
	}
	return l
}

// Trees sown at random; n is how deep they are at most.

func (d *dice) name() string { return d.pick("x", "y", "f'", "lets", "a_1", "rec0", "zZ") }
func (d *dice) con() string  { return d.pick("A", "B", "Nil", "Let", "T'") }
func (d *dice) mult() api.Mult {
	return api.Mult(1 + d.below(3))
}
func (d *dice) num() int64 { return []int64{0, 1, 2, 17, api.MaxInt}[d.below(5)] }
func (d *dice) str() string {
	return d.pick("", "s", "(", ")", "->", "-1>", "let", "\n\t\\\"", "_", "<", "--", "\u20ac")
}

func (d *dice) expr(n int) api.Expr {
	k := 3 + d.below(9)
	if n <= 1 {
		k = d.below(5)
	}
	kid := func() api.Expr { return d.expr(n - 1) }
	switch k {
	case 0:
		return api.Expr{Kind: api.ExInt, N: d.num()}
	case 1:
		return api.Expr{Kind: api.ExStr, S: d.str()}
	case 2:
		return api.Expr{Kind: api.ExPrim, S: d.pick("open", "size", "fail")}
	case 3:
		return api.Expr{Kind: api.ExName, S: d.name()}
	case 4:
		return api.Expr{Kind: api.ExCon, S: d.con()}
	case 5:
		return api.Expr{Kind: api.ExLam, S: d.name(), L: []api.Expr{kid()}}
	case 6:
		return api.Expr{Kind: api.ExApp, L: []api.Expr{kid(), kid()}}
	case 7:
		return api.Expr{Kind: api.ExLet + uint8(d.below(2)), S: d.name(), L: []api.Expr{kid(), kid()}}
	case 8:
		arm := func() api.Arm { return api.Arm{P: d.pat(n - 1), E: kid()} }
		return api.Expr{Kind: api.ExCase, L: []api.Expr{kid()}, Arms: append(someOf(d, 2, arm), arm())}
	case 9:
		return api.Expr{Kind: api.ExCon, S: d.con(), L: someOf(d, 3, kid)}
	case 10:
		return api.Expr{Kind: api.ExPrim, S: d.pick("read", "write", "close", "array", "get", "set", "len"), L: someOf(d, 3, kid)}
	}
	return api.Expr{Kind: api.ExPrim, S: d.pick("<", "==", "++", "+", "-", "*", "/", "%"), L: []api.Expr{kid(), kid()}}
}

func (d *dice) pat(n int) api.Pat {
	switch d.below(6) {
	case 0:
		return api.Pat{Kind: api.PtName, S: d.name()}
	case 1:
		return api.Pat{Kind: api.PtAny}
	case 2:
		return api.Pat{Kind: api.PtInt, N: d.num()}
	case 3:
		return api.Pat{Kind: api.PtStr, S: d.str()}
	}
	x := api.Pat{Kind: api.PtCon, S: d.con()}
	if n > 1 {
		x.L = someOf(d, 3, func() api.Pat { return d.pat(n - 1) })
	}
	return x
}

func (d *dice) ty(n int) api.Ty {
	kid := func() api.Ty { return d.ty(n - 1) }
	if n > 1 {
		switch d.below(5) {
		case 0, 1:
			return api.Ty{Kind: api.TyFun, M: d.mult(), L: []api.Ty{kid(), kid()}}
		case 2, 3:
			return api.Ty{Kind: api.TyCon, S: d.con(), L: someOf(d, 3, kid)}
		}
	}
	if d.below(2) == 0 {
		return api.Ty{Kind: api.TyCon, S: d.con()}
	}
	return api.Ty{Kind: api.TyName, S: d.name()}
}

func (d *dice) decl(n int) api.Decl {
	if d.below(2) == 0 {
		return api.Decl{Kind: api.DcLet, Name: d.name(), Rec: d.below(2) == 0, E: d.expr(n)}
	}
	field := func() api.Field { return api.Field{M: d.mult(), T: d.ty(n)} }
	con := func() api.ConDecl { return api.ConDecl{Name: d.con(), Fields: someOf(d, 3, field)} }
	return api.Decl{Kind: api.DcData, Name: d.con(), Params: someOf(d, 3, d.name), Cons: append(someOf(d, 2, con), con())}
}

// writer writes a tree in one of the ways in which the table lets it be written: with more brackets than it needs
// by the number more of 4, with x { x } instead of lambdas, and with what may stand between tokens.
type writer struct {
	*dice
	more int
	gaps bool
	text strings.Builder
}

func (w *writer) put(l ...string) {
	for _, s := range l {
		w.text.WriteString(s)
		if w.gaps {
			w.text.WriteString(w.pick(" ", " ", "\n", "\t", " --a\n", "\r\n", "  -- ( \u20ac\n\n", " ---->\n"))
		} else {
			w.text.WriteByte(' ')
		}
	}
}

// bracket writes in brackets, if it must.
func (w *writer) bracket(must bool, write func()) {
	if !must && w.below(4) >= w.more {
		write()
		return
	}
	w.put("(")
	w.bracket(false, write)
	w.put(")")
}

// How tight an expression stands: as one, as a part of a comparison, a chain, a sum, a product, or by itself.
const (
	asOne = iota
	ofComparison
	ofChain
	ofSum
	ofProduct
	byItself
)

func tightness(x api.Expr) int {
	switch x.Kind {
	case api.ExName, api.ExInt, api.ExStr:
		return byItself
	case api.ExCon:
		if len(x.L) == 0 {
			return byItself
		}
		return ofProduct
	case api.ExApp:
		return ofProduct
	case api.ExPrim:
		switch x.S {
		case "<", "==":
			return asOne
		case "++":
			return ofComparison
		case "+", "-":
			return ofChain
		case "*", "/", "%":
			return ofSum
		}
		return ofProduct
	}
	return asOne
}

func quoted(s string) string {
	return `"` + strings.NewReplacer(`\`, `\\`, `"`, `\"`, "\n", `\n`, "\t", `\t`).Replace(s) + `"`
}

// expr writes x, so that it stands as tight as that.
func (w *writer) expr(x api.Expr, tight int) {
	w.bracket(tightness(x) < tight, func() { w.bare(x) })
}

func (w *writer) bare(x api.Expr) {
	switch x.Kind {
	case api.ExName:
		w.put(x.S)
	case api.ExInt:
		w.put(strconv.FormatInt(x.N, 10))
	case api.ExStr:
		w.put(quoted(x.S))
	case api.ExLam:
		w.put(`\`, x.S)
		w.function("->", x.L[0])
	case api.ExLet, api.ExRec:
		w.bound(x.Kind == api.ExRec, x.S, x.L[0])
		w.put("in")
		w.expr(x.L[1], asOne)
	case api.ExCase:
		w.put("case")
		w.expr(x.L[0], asOne)
		sign := "{"
		w.put("of")
		for _, a := range x.Arms {
			w.put(sign)
			w.pat(a.P, false)
			w.put("->")
			w.expr(a.E, asOne)
			sign = ";"
		}
		w.put("}")
	case api.ExApp:
		w.bracket(x.L[0].Kind != api.ExApp && tightness(x.L[0]) < byItself || x.L[0].Kind == api.ExCon, func() { w.bare(x.L[0]) })
		w.expr(x.L[1], byItself)
	default:
		w.headed(x)
	}
}

func (w *writer) headed(x api.Expr) {
	t := tightness(x)
	if t < ofProduct {
		left := max(t, ofComparison)
		w.expr(x.L[0], left)
		w.put(x.S)
		w.expr(x.L[1], max(t+1, ofComparison))
		return
	}
	w.put(x.S)
	for _, k := range x.L {
		w.expr(k, byItself)
	}
}

// function writes the sign and x, perhaps with names of x ahead of the sign.
func (w *writer) function(sign string, x api.Expr) {
	for x.Kind == api.ExLam && w.below(2) == 0 {
		w.put(x.S)
		x = x.L[0]
	}
	w.put(sign)
	w.expr(x, asOne)
}

func (w *writer) bound(rec bool, name string, x api.Expr) {
	w.put("let")
	if rec {
		w.put("rec")
	}
	w.put(name)
	w.function("=", x)
}

// pat writes x, in brackets if it is to stand by itself and does not.
func (w *writer) pat(x api.Pat, itself bool) {
	w.bracket(itself && len(x.L) > 0, func() {
		switch x.Kind {
		case api.PtAny:
			w.put("_")
		case api.PtInt:
			w.put(strconv.FormatInt(x.N, 10))
		case api.PtStr:
			w.put(quoted(x.S))
		default:
			w.put(x.S)
		}
		for _, k := range x.L {
			w.pat(k, true)
		}
	})
}

// ty writes x: by itself (2), as what an arrow comes from (1), or as one (0).
func (w *writer) ty(x api.Ty, tight int) {
	own := 2
	if x.Kind == api.TyFun {
		own = 0
	} else if len(x.L) > 0 {
		own = 1
	}
	w.bracket(own < tight, func() {
		if x.Kind == api.TyFun {
			w.ty(x.L[0], 1)
			w.put([]string{"-1>", "-?>", "-*>"}[x.M-1])
			w.ty(x.L[1], 0)
			return
		}
		w.put(x.S)
		for _, k := range x.L {
			w.ty(k, 2)
		}
	})
}

func (w *writer) decl(d api.Decl) {
	if d.Kind == api.DcLet {
		w.bound(d.Rec, d.Name, d.E)
		return
	}
	w.put("data", d.Name)
	w.put(d.Params...)
	sign := "="
	for _, c := range d.Cons {
		w.put(sign, c.Name)
		for _, f := range c.Fields {
			w.put([]string{"1", "?", "*"}[f.M-1])
			w.ty(f.T, 2)
		}
		sign = "|"
	}
}
