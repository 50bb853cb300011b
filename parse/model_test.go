package parse

import (
	"reflect"
	"slices"
	"strings"

	"usufruct/api"
	"usufruct/lex"
	"usufruct/utf"
)

// The model holds a text's tokens against the chapter's table, told as rows of symbols: one in < > is a row, one
// that ends in .. stands as often as one likes, a word in capitals is a kind of tokens, any other one stands for itself.

func rowsOf(symbol string) []string {
	switch symbol {
	case "<text>":
		return []string{"<decl>.."}
	case "<decl>":
		return []string{"data CON NAME.. = <con> <orcon>..", "let <rec> NAME NAME.. = <e>"}
	case "<rec>":
		return []string{"", "rec"}
	case "<con>":
		return []string{"CON <field>.."}
	case "<orcon>":
		return []string{"| <con>"}
	case "<field>":
		return []string{"1 <ta>", "? <ta>", "* <ta>"}
	case "<t>":
		return []string{"<tb> <to>"}
	case "<to>":
		return []string{"", "-1> <t>", "-?> <t>", "-*> <t>"}
	case "<tb>":
		return []string{"CON <ta>..", "<ta>"}
	case "<ta>":
		return []string{"NAME", "CON", "( <t> )"}
	case "<e>":
		return []string{`\ NAME NAME.. -> <e>`, "let <rec> NAME NAME.. = <e> in <e>", "case <e> of { <arm> <andarm>.. }", "<compared>"}
	case "<compared>":
		return []string{"<chain> <other>"}
	case "<other>":
		return []string{"", "< <chain>", "== <chain>"}
	case "<chain>":
		return []string{"<sum> <andsum>.."}
	case "<andsum>":
		return []string{"++ <sum>"}
	case "<sum>":
		return []string{"<product> <andproduct>.."}
	case "<andproduct>":
		return []string{"+ <product>", "- <product>"}
	case "<product>":
		return []string{"<application> <andapplication>.."}
	case "<andapplication>":
		return []string{"* <application>", "/ <application>", "% <application>"}
	case "<application>":
		return []string{"CON <ea>..", "PRIM <ea>..", "<ea> <ea>.."}
	case "<ea>":
		return []string{"NAME", "CON", "INT", "STR", "( <e> )"}
	case "<arm>":
		return []string{"<p> -> <e>"}
	case "<andarm>":
		return []string{"; <arm>"}
	case "<p>":
		return []string{"CON <pa>..", "<pa>"}
	case "<pa>":
		return []string{"NAME", "_", "INT", "STR", "CON", "( <p> )"}
	}
	return nil
}

func isRow(symbol string) bool { return len(symbol) > 1 && symbol[0] == '<' && symbol[1] != ' ' }

// stack is what is still to stand, the next symbol on top; nil is none. Each is made once.
type stack struct {
	top   string
	under *stack
}

type grammar struct {
	stacks map[stack]*stack
	opens  map[*stack][]*stack
}

func newGrammar() *grammar {
	return &grammar{map[stack]*stack{}, map[*stack][]*stack{}}
}

func (g *grammar) push(s *stack, symbols ...string) *stack {
	for _, x := range slices.Backward(symbols) {
		k := stack{x, s}
		if g.stacks[k] == nil {
			g.stacks[k] = &k
		}
		s = g.stacks[k]
	}
	return s
}

// opened is all that s may be with a token on top, or with nothing left.
func (g *grammar) opened(s *stack) []*stack {
	if s == nil {
		return []*stack{nil}
	}
	if l, ok := g.opens[s]; ok {
		return l
	}
	var l []*stack
	if one, ok := strings.CutSuffix(s.top, ".."); ok {
		l = append(g.opened(s.under), g.opened(g.push(s, one))...)
	} else if isRow(s.top) {
		for _, row := range rowsOf(s.top) {
			l = append(l, g.opened(g.push(s.under, strings.Fields(row)...))...)
		}
	} else {
		l = []*stack{s}
	}
	g.opens[s] = l
	return l
}

// stands says whether t is what the symbol stands for.
func stands(symbol string, t api.Token) bool {
	switch symbol {
	case "NAME":
		return t.Kind == api.TkName
	case "CON":
		return t.Kind == api.TkCon
	case "INT":
		return t.Kind == api.TkInt
	case "STR":
		return t.Kind == api.TkStr
	case "PRIM":
		return t.Kind == api.TkPrim
	case "1":
		return t.Kind == api.TkInt && t.N == 1
	}
	return t.Kind == api.TkSign && t.Text == symbol
}

// step is what may still stand behind t.
func (g *grammar) step(now []*stack, t api.Token) []*stack {
	var next []*stack
	for _, s := range now {
		if s == nil || !stands(s.top, t) {
			continue
		}
		for _, n := range g.opened(s.under) {
			if !slices.Contains(next, n) {
				next = append(next, n)
			}
		}
	}
	return next
}

// bad is the number of the first token with which nothing goes on, how many there are if more ought to stand, or -1.
func (g *grammar) bad(start string, l []api.Token) int {
	now := g.opened(g.push(nil, start))
	for i, t := range l {
		if now = g.step(now, t); len(now) == 0 {
			return i
		}
	}
	if slices.Contains(now, nil) {
		return -1
	}
	return len(l)
}

// The trees of tokens that are right, found by cutting them at the token that binds the least.

type tokens []api.Token

func (l tokens) is(i int, signs ...string) bool {
	return l[i].Kind == api.TkSign && slices.Contains(signs, l[i].Text)
}

// all is where the signs stand outside of brackets and braces, up to so many of them.
func (l tokens) all(most int, signs ...string) []int {
	var at []int
	for i, in := 0, 0; i < len(l) && len(at) < most; i++ {
		if in == 0 && l.is(i, signs...) {
			at = append(at, i)
		}
		if l.is(i, "(", "{") {
			in++
		}
		if l.is(i, ")", "}") {
			in--
		}
	}
	return at
}

// first is where the first one of them stands, len(l) if none does.
func (l tokens) first(signs ...string) int {
	return append(l.all(1, signs...), len(l))[0]
}

// last is as first is, of the last one; -1 if there is none.
func (l tokens) last(signs ...string) int {
	at := append([]int{-1}, l.all(len(l), signs...)...)
	return at[len(at)-1]
}

// closer is where the b stands that belongs to the a at l's beginning.
func (l tokens) closer(a, b string) int {
	for i, in := 0, 0; i < len(l); i++ {
		if l.is(i, a) {
			in++
		}
		if l.is(i, b) {
			if in--; in == 0 {
				return i
			}
		}
	}
	return len(l)
}

// cut is the pieces of l between the signs that stand outside of brackets and braces.
func (l tokens) cut(sign string) []tokens {
	var pieces []tokens
	from := 0
	for _, i := range append(l.all(len(l), sign), len(l)) {
		pieces = append(pieces, l[from:i])
		from = i + 1
	}
	return pieces
}

// atoms is the pieces of l that are one token, or one pair of brackets.
func (l tokens) atoms() []tokens {
	var pieces []tokens
	for len(l) > 0 {
		n := 1
		if l.is(0, "(") {
			n = l.closer("(", ")") + 1
		}
		pieces = append(pieces, l[:n])
		l = l[n:]
	}
	return pieces
}

func (l tokens) inner() tokens { return l[1 : len(l)-1] }

func each[T any](l []tokens, f func(tokens) T) []T {
	var out []T
	for _, x := range l {
		out = append(out, f(x))
	}
	return out
}

func exprOf(l tokens) api.Expr {
	switch {
	case l.is(0, `\`):
		i := l.first("->")
		return lams(l[1:i], exprOf(l[i+1:]))
	case l.is(0, "let"):
		i := l.closer("let", "in")
		b := letOf(l[:i])
		x := api.Expr{Kind: api.ExLet, S: b.Name, At: l[0].At, L: []api.Expr{b.E, exprOf(l[i+1:])}}
		if b.Rec {
			x.Kind = api.ExRec
		}
		return x
	case l.is(0, "case"):
		i := l.closer("case", "of")
		return api.Expr{Kind: api.ExCase, At: l[0].At, L: []api.Expr{exprOf(l[1:i])}, Arms: each(l[i+1:].inner().cut(";"), armOf)}
	}
	for _, signs := range [][]string{{"<", "=="}, {"++"}, {"+", "-"}, {"*", "/", "%"}} {
		if i := l.last(signs...); i >= 0 {
			return api.Expr{Kind: api.ExPrim, S: l[i].Text, At: l[i].At, L: []api.Expr{exprOf(l[:i]), exprOf(l[i+1:])}}
		}
	}
	as := l.atoms()
	if len(as) == 1 && l.is(0, "(") {
		return exprOf(l.inner())
	}
	t := l[0]
	switch t.Kind {
	case api.TkCon:
		return api.Expr{Kind: api.ExCon, S: t.Text, At: t.At, L: each(as[1:], exprOf)}
	case api.TkPrim:
		return api.Expr{Kind: api.ExPrim, S: t.Text, At: t.At, L: each(as[1:], exprOf)}
	}
	if len(as) > 1 {
		x := exprOf(as[0])
		for _, a := range as[1:] {
			x = api.Expr{Kind: api.ExApp, At: x.At, L: []api.Expr{x, exprOf(a)}}
		}
		return x
	}
	kind := map[uint8]uint8{api.TkName: api.ExName, api.TkInt: api.ExInt, api.TkStr: api.ExStr}[t.Kind]
	return api.Expr{Kind: kind, S: t.Text, N: t.N, At: t.At}
}

func lams(names tokens, e api.Expr) api.Expr {
	for _, x := range slices.Backward(names) {
		e = api.Expr{Kind: api.ExLam, S: x.Text, At: x.At, L: []api.Expr{e}}
	}
	return e
}

// letOf is the declaration of a let, without what it is in.
func letOf(l tokens) api.Decl {
	n := 1
	if l.is(1, "rec") {
		n = 2
	}
	i := l.first("=")
	return api.Decl{Kind: api.DcLet, Name: l[n].Text, At: l[n].At, Rec: n == 2, E: lams(l[n+1:i], exprOf(l[i+1:]))}
}

func armOf(l tokens) api.Arm {
	i := l.first("->")
	return api.Arm{P: patOf(l[:i]), E: exprOf(l[i+1:])}
}

func patOf(l tokens) api.Pat {
	as := l.atoms()
	t := l[0]
	switch {
	case l.is(0, "("):
		return patOf(l.inner())
	case l.is(0, "_"):
		return api.Pat{Kind: api.PtAny, At: t.At}
	}
	kind := map[uint8]uint8{api.TkName: api.PtName, api.TkInt: api.PtInt, api.TkStr: api.PtStr, api.TkCon: api.PtCon}[t.Kind]
	return api.Pat{Kind: kind, S: t.Text, N: t.N, At: t.At, L: each(as[1:], patOf)}
}

func tyOf(l tokens) api.Ty {
	if i := l.first("-1>", "-?>", "-*>"); i < len(l) {
		m := map[string]api.Mult{"-1>": api.One, "-?>": api.Affine, "-*>": api.Many}[l[i].Text]
		return api.Ty{Kind: api.TyFun, M: m, At: l[i].At, L: []api.Ty{tyOf(l[:i]), tyOf(l[i+1:])}}
	}
	if l.is(0, "(") {
		return tyOf(l.inner())
	}
	if l[0].Kind == api.TkName {
		return api.Ty{Kind: api.TyName, S: l[0].Text, At: l[0].At}
	}
	return api.Ty{Kind: api.TyCon, S: l[0].Text, At: l[0].At, L: each(l[1:].atoms(), tyOf)}
}

func conOf(l tokens) api.ConDecl {
	c := api.ConDecl{Name: l[0].Text, At: l[0].At}
	as := l[1:].atoms()
	for i := 0; i < len(as); i += 2 {
		m := map[string]api.Mult{"": api.One, "?": api.Affine, "*": api.Many}[as[i][0].Text]
		c.Fields = append(c.Fields, api.Field{M: m, T: tyOf(as[i+1])})
	}
	return c
}

// declsOf is the declarations of l: one begins with each data, and with each let behind which none of an expression's may stand.
func declsOf(l tokens) []api.Decl {
	var out []api.Decl
	end := len(l)
	for i := len(l) - 1; i >= 0; i-- {
		if !l.is(i, "data", "let") || i > 0 && l.is(i-1, "=", "in", "->", "(", "case") {
			continue
		}
		d := api.Decl{}
		if l.is(i, "data") {
			k := i + l[i:].first("=")
			d = api.Decl{Kind: api.DcData, Name: l[i+1].Text, At: l[i+1].At, Cons: each(l[k+1:end].cut("|"), conOf)}
			for _, x := range l[i+2 : k] {
				d.Params = append(d.Params, x.Text)
			}
		} else {
			d = letOf(l[i:end])
		}
		out = slices.Insert(out, 0, d)
		end = i
	}
	return out
}

// The model of the depth.

func deepExpr(x api.Expr) int {
	n := 0
	for _, k := range x.L {
		n = max(n, deepExpr(k))
	}
	for _, a := range x.Arms {
		n = max(n, deepPat(a.P), deepExpr(a.E))
	}
	return n + 1
}

func deepPat(x api.Pat) int {
	n := 0
	for _, k := range x.L {
		n = max(n, deepPat(k))
	}
	return n + 1
}

func deepTy(x api.Ty) int {
	n := 0
	for _, k := range x.L {
		n = max(n, deepTy(k))
	}
	return n + 1
}

func deepDecl(d api.Decl) int {
	if d.Kind == api.DcLet {
		return deepExpr(d.E)
	}
	n := 0
	for _, c := range d.Cons {
		for _, f := range c.Fields {
			n = max(n, deepTy(f.T))
		}
	}
	return n
}

// input is a text, and its tokens, or what lex tells is wrong.
type input struct {
	text string
	l    tokens
	d    api.Diag
}

func inputOf(s string) input {
	l, d := lex.Tokens(s)
	return input{s, l, d}
}

// wrong is what is told of a text that is not what the row start stands for.
func (g *grammar) wrong(start string, s input) api.Diag {
	if s.d.E != api.OK {
		return s.d
	}
	switch i := g.bad(start, s.l); i {
	case -1:
		return api.Diag{}
	case len(s.l):
		end, _ := utf.End(s.text)
		return api.Diag{E: api.ErrSyntax, At: end}
	default:
		return api.Diag{E: api.ErrSyntax, At: s.l[i].At}
	}
}

func (g *grammar) parse(s input) ([]api.Decl, api.Diag) {
	if d := g.wrong("<text>", s); d.E != api.OK {
		return nil, d
	}
	out := declsOf(s.l)
	for _, x := range out {
		if deepDecl(x) > 60 {
			return nil, api.Diag{E: api.ErrDeep, At: x.At}
		}
	}
	return out, api.Diag{}
}

func (g *grammar) expr(s input) (api.Expr, api.Diag) {
	if d := g.wrong("<e>", s); d.E != api.OK {
		return api.Expr{}, d
	}
	x := exprOf(s.l)
	if deepExpr(x) > 60 {
		return api.Expr{}, api.Diag{E: api.ErrDeep, At: x.At}
	}
	return x, api.Diag{}
}

func (g *grammar) ty(s input) (api.Ty, api.Diag) {
	if d := g.wrong("<t>", s); d.E != api.OK {
		return api.Ty{}, d
	}
	x := tyOf(s.l)
	if deepTy(x) > 60 {
		return api.Ty{}, api.Diag{E: api.ErrDeep, At: x.At}
	}
	return x, api.Diag{}
}

// Whether Parse, Expr and Type answer what the model does, places and all.

func (g *grammar) asParse(s input) bool {
	l, d := Parse(s.text)
	want, wantDiag := g.parse(s)
	return d == wantDiag && reflect.DeepEqual(l, want)
}

func (g *grammar) asExpr(s input) bool {
	x, d := Expr(s.text)
	want, wantDiag := g.expr(s)
	return d == wantDiag && reflect.DeepEqual(x, want)
}

func (g *grammar) asType(s input) bool {
	x, d := Type(s.text)
	want, wantDiag := g.ty(s)
	return d == wantDiag && reflect.DeepEqual(x, want)
}

// asModel says whether all three do of s.
func (g *grammar) asModel(s string) bool {
	in := inputOf(s)
	return g.asParse(in) && g.asExpr(in) && g.asType(in)
}
