package show

import (
	"fmt"
	"regexp"
	"slices"
	"strconv"
	"strings"
	"unicode/utf8"

	"usufruct/api"
)

// Short ways to write trees down.

func nm(s string) api.Expr              { return api.Expr{Kind: api.ExName, S: s} }
func num(n int64) api.Expr              { return api.Expr{Kind: api.ExInt, N: n} }
func str(s string) api.Expr             { return api.Expr{Kind: api.ExStr, S: s} }
func lam(s string, e api.Expr) api.Expr { return api.Expr{Kind: api.ExLam, S: s, L: []api.Expr{e}} }
func app(f, x api.Expr) api.Expr        { return api.Expr{Kind: api.ExApp, L: []api.Expr{f, x}} }
func let(s string, a, b api.Expr) api.Expr {
	return api.Expr{Kind: api.ExLet, S: s, L: []api.Expr{a, b}}
}
func rec(s string, a, b api.Expr) api.Expr {
	return api.Expr{Kind: api.ExRec, S: s, L: []api.Expr{a, b}}
}
func cased(e api.Expr, l ...api.Arm) api.Expr {
	return api.Expr{Kind: api.ExCase, L: []api.Expr{e}, Arms: l}
}
func made(s string, l ...api.Expr) api.Expr { return api.Expr{Kind: api.ExCon, S: s, L: l} }
func prim(s string, l ...api.Expr) api.Expr { return api.Expr{Kind: api.ExPrim, S: s, L: l} }

func arm(p api.Pat, e api.Expr) api.Arm   { return api.Arm{P: p, E: e} }
func pn(s string) api.Pat                 { return api.Pat{Kind: api.PtName, S: s} }
func pany() api.Pat                       { return api.Pat{Kind: api.PtAny} }
func pnum(n int64) api.Pat                { return api.Pat{Kind: api.PtInt, N: n} }
func pstr(s string) api.Pat               { return api.Pat{Kind: api.PtStr, S: s} }
func pcon(s string, l ...api.Pat) api.Pat { return api.Pat{Kind: api.PtCon, S: s, L: l} }
func tn(s string) api.Ty                  { return api.Ty{Kind: api.TyName, S: s} }
func tc(s string, l ...api.Ty) api.Ty     { return api.Ty{Kind: api.TyCon, S: s, L: l} }
func tf(a api.Ty, m api.Mult, b api.Ty) api.Ty {
	return api.Ty{Kind: api.TyFun, M: m, L: []api.Ty{a, b}}
}
func field(m api.Mult, t api.Ty) api.Field { return api.Field{M: m, T: t} }
func cdecl(s string, l ...api.Field) api.ConDecl {
	return api.ConDecl{Name: s, Fields: l}
}
func ddata(s string, params []string, l ...api.ConDecl) api.Decl {
	return api.Decl{Kind: api.DcData, Name: s, Params: params, Cons: l}
}
func dlet(s string, e api.Expr) api.Decl { return api.Decl{Kind: api.DcLet, Name: s, E: e} }
func drec(s string, e api.Expr) api.Decl {
	return api.Decl{Kind: api.DcLet, Name: s, Rec: true, E: e}
}

// The model of what may be, by the chapter's words; names and numbers are told as patterns.

var (
	smallName = regexp.MustCompile(`^[a-z][0-9a-zA-Z_']{0,23}$`)
	greatName = regexp.MustCompile(`^[A-Z][0-9a-zA-Z_']{0,23}$`)
)

const (
	taken    = " let rec in case of data open read write close array get set size fail len "
	primList = "open read write close array get set size fail len"
	opList   = "< == ++ + - * / %"
)

func in(list, s string) bool { return slices.Contains(strings.Fields(list), s) }

func isName(s string) bool {
	return smallName.MatchString(s) && !strings.HasSuffix(s, "\n") && !in(taken, s)
}
func isCon(s string) bool { return greatName.MatchString(s) && !strings.HasSuffix(s, "\n") }
func isNum(n int64) bool  { return 0 <= n && n <= 1099511627776 }
func isText(s string) bool {
	return utf8.ValidString(s)
}

func every[T any](l []T, ok func(T) bool) bool {
	return !slices.ContainsFunc(l, func(x T) bool { return !ok(x) })
}

func goodExpr(x api.Expr) bool {
	noS, noN, noL, noArms := x.S == "", x.N == 0, len(x.L) == 0, len(x.Arms) == 0
	good := false
	switch x.Kind {
	case 1:
		good = isName(x.S) && noN && noL && noArms
	case 2:
		good = noS && isNum(x.N) && noL && noArms
	case 3:
		good = isText(x.S) && noN && noL && noArms
	case 4:
		good = isName(x.S) && noN && len(x.L) == 1 && noArms
	case 5:
		good = noS && noN && len(x.L) == 2 && noArms
	case 6, 7:
		good = isName(x.S) && noN && len(x.L) == 2 && noArms
	case 8:
		good = noS && noN && len(x.L) == 1 && !noArms
	case 9:
		good = isCon(x.S) && noN && noArms
	case 10:
		good = (in(primList, x.S) || in(opList, x.S) && len(x.L) == 2) && noN && noArms
	}
	return good && every(x.L, goodExpr) && every(x.Arms, func(a api.Arm) bool { return goodPat(a.P) && goodExpr(a.E) })
}

func goodPat(x api.Pat) bool {
	noS, noN, noL := x.S == "", x.N == 0, len(x.L) == 0
	good := false
	switch x.Kind {
	case 1:
		good = isName(x.S) && noN && noL
	case 2:
		good = noS && noN && noL
	case 3:
		good = noS && isNum(x.N) && noL
	case 4:
		good = isText(x.S) && noN && noL
	case 5:
		good = isCon(x.S) && noN
	}
	return good && every(x.L, goodPat)
}

func goodTy(x api.Ty) bool {
	good := false
	switch x.Kind {
	case 1:
		good = isName(x.S) && x.M == 0 && len(x.L) == 0
	case 2:
		good = isCon(x.S) && x.M == 0
	case 3:
		good = x.S == "" && 1 <= x.M && x.M <= 3 && len(x.L) == 2
	}
	return good && every(x.L, goodTy)
}

func goodDecl(d api.Decl) bool {
	switch d.Kind {
	case 1:
		return isCon(d.Name) && every(d.Params, isName) && len(d.Cons) >= 1 && !d.Rec && every(d.Cons, func(c api.ConDecl) bool {
			return isCon(c.Name) && every(c.Fields, func(f api.Field) bool { return 1 <= f.M && f.M <= 3 && goodTy(f.T) })
		}) && d.E.Kind == 0 && d.E.S == "" && d.E.N == 0 && len(d.E.L) == 0 && len(d.E.Arms) == 0
	case 2:
		return isName(d.Name) && len(d.Params) == 0 && len(d.Cons) == 0 && goodExpr(d.E)
	}
	return false
}

// The model of the depth.

func deepExpr(x api.Expr) int {
	if len(x.L) == 0 && len(x.Arms) == 0 {
		return 1
	}
	n := 0
	for _, k := range x.L {
		n = max(n, deepExpr(k))
	}
	for _, a := range x.Arms {
		n = max(n, deepPat(a.P), deepExpr(a.E))
	}
	return n + 1
}

func deepPat(x api.Pat) int {
	n := 0
	for _, k := range x.L {
		n = max(n, deepPat(k))
	}
	return n + 1
}

func deepTy(x api.Ty) int {
	n := 0
	for _, k := range x.L {
		n = max(n, deepTy(k))
	}
	return n + 1
}

func deepDecl(d api.Decl) int {
	n := 0
	if d.Kind == 2 {
		n = deepExpr(d.E)
	}
	for _, c := range d.Cons {
		for _, f := range c.Fields {
			if d.Kind == 1 {
				n = max(n, deepTy(f.T))
			}
		}
	}
	return n
}

// The model of the writing: what may be, as a text with a blank between two tokens.

func stringed(s string) string {
	return `"` + strings.NewReplacer(`\`, `\\`, `"`, `\"`, "\n", `\n`, "\t", `\t`).Replace(s) + `"`
}

// kidExpr is x as a kid.
func kidExpr(x api.Expr) string {
	if x.Kind <= 3 || x.Kind == 9 && len(x.L) == 0 {
		return writeExpr(x)
	}
	return "( " + writeExpr(x) + " )"
}

func writeExpr(x api.Expr) string {
	switch x.Kind {
	case 1:
		return x.S
	case 2:
		return strconv.FormatInt(x.N, 10)
	case 3:
		return stringed(x.S)
	case 4:
		return fmt.Sprint(`\ `, x.S, " -> ", writeExpr(x.L[0]))
	case 5:
		if x.L[0].Kind == 9 {
			return fmt.Sprint("( ", writeExpr(x.L[0]), " ) ", kidExpr(x.L[1]))
		}
		return kidExpr(x.L[0]) + " " + kidExpr(x.L[1])
	case 6:
		return fmt.Sprint("let ", x.S, " = ", writeExpr(x.L[0]), " in ", writeExpr(x.L[1]))
	case 7:
		return fmt.Sprint("let rec ", x.S, " = ", writeExpr(x.L[0]), " in ", writeExpr(x.L[1]))
	case 8:
		var l []string
		for _, a := range x.Arms {
			l = append(l, writePat(a.P)+" -> "+writeExpr(a.E))
		}
		return fmt.Sprint("case ", writeExpr(x.L[0]), " of { ", strings.Join(l, " ; "), " }")
	}
	if in(opList, x.S) {
		return kidExpr(x.L[0]) + " " + x.S + " " + kidExpr(x.L[1])
	}
	out := x.S
	for _, k := range x.L {
		out += " " + kidExpr(k)
	}
	return out
}

func writePat(x api.Pat) string {
	switch x.Kind {
	case 2:
		return "_"
	case 3:
		return strconv.FormatInt(x.N, 10)
	case 4:
		return stringed(x.S)
	}
	out := x.S
	for _, k := range x.L {
		if k.Kind == 5 && len(k.L) > 0 {
			out += " ( " + writePat(k) + " )"
		} else {
			out += " " + writePat(k)
		}
	}
	return out
}

func kidTy(x api.Ty) string {
	if x.Kind == 3 || len(x.L) > 0 {
		return "( " + writeTy(x) + " )"
	}
	return writeTy(x)
}

func writeTy(x api.Ty) string {
	if x.Kind == 3 {
		return kidTy(x.L[0]) + " -" + "1?*"[x.M-1:x.M] + "> " + kidTy(x.L[1])
	}
	out := x.S
	for _, k := range x.L {
		out += " " + kidTy(k)
	}
	return out
}

func writeDecl(d api.Decl) string {
	if d.Kind == 2 {
		if d.Rec {
			return "let rec " + d.Name + " = " + writeExpr(d.E)
		}
		return "let " + d.Name + " = " + writeExpr(d.E)
	}
	head := strings.Join(append([]string{"data", d.Name}, d.Params...), " ")
	var l []string
	for _, c := range d.Cons {
		s := c.Name
		for _, f := range c.Fields {
			s += " " + "1?*"[f.M-1:f.M] + " " + kidTy(f.T)
		}
		l = append(l, s)
	}
	return head + " = " + strings.Join(l, " | ")
}

// modelExpr is what TextExpr is to answer.
func modelExpr(x api.Expr) (string, api.Errno) {
	if !goodExpr(x) || deepExpr(x) > 60 {
		return "", 2
	}
	return fits(writeExpr(x))
}

// model is what Text is to answer.
func model(l []api.Decl) (string, api.Errno) {
	var out []string
	for _, d := range l {
		if !goodDecl(d) || deepDecl(d) > 60 {
			return "", 2
		}
		out = append(out, writeDecl(d))
	}
	return fits(strings.Join(out, " "))
}

func fits(s string) (string, api.Errno) {
	if len(s) > 4000 {
		return "", 3
	}
	return s, 0
}

// asModelExpr says whether TextExpr, and Text and Depth of a declaration of x, answer what the model does.
func asModelExpr(x api.Expr) bool {
	s, e := TextExpr(x)
	want, wantErr := modelExpr(x)
	return s == want && e == wantErr && asModel(dlet("f", x))
}

// asModel says whether Text and Depth answer what the model does.
func asModel(l ...api.Decl) bool {
	s, e := Text(l)
	want, wantErr := model(l)
	return s == want && e == wantErr && every(l, func(d api.Decl) bool { return Depth(d) == deepDecl(d) })
}

// The model of what is the same: all fields but places, told as a text.

func toldExpr(x api.Expr) string {
	out := fmt.Sprintf("E%d %q %d[", x.Kind, x.S, x.N)
	for _, k := range x.L {
		out += toldExpr(k)
	}
	out += "]["
	for _, a := range x.Arms {
		out += toldPat(a.P) + toldExpr(a.E)
	}
	return out + "]"
}

func toldPat(x api.Pat) string {
	out := fmt.Sprintf("P%d %q %d[", x.Kind, x.S, x.N)
	for _, k := range x.L {
		out += toldPat(k)
	}
	return out + "]"
}

func toldTy(x api.Ty) string {
	out := fmt.Sprintf("T%d %q %d[", x.Kind, x.S, x.M)
	for _, k := range x.L {
		out += toldTy(k)
	}
	return out + "]"
}

func told(l []api.Decl) string {
	out := ""
	for _, d := range l {
		out += fmt.Sprintf("D%d %q %q %v%s[", d.Kind, d.Name, d.Params, d.Rec, toldExpr(d.E))
		for _, c := range d.Cons {
			out += fmt.Sprintf("C%q[", c.Name)
			for _, f := range c.Fields {
				out += fmt.Sprintf("%d%s", f.M, toldTy(f.T))
			}
			out += "]"
		}
		out += "]"
	}
	return out
}

// Trees in which every place is another one, and every empty list is there.

type places struct{ n int }

func (p *places) at() api.Pos {
	p.n++
	return api.Pos{At: p.n, Line: p.n * 7, Col: -p.n}
}

func (p *places) expr(x api.Expr) api.Expr {
	x.At = p.at()
	l, arms := []api.Expr{}, []api.Arm{}
	for _, k := range x.L {
		l = append(l, p.expr(k))
	}
	for _, a := range x.Arms {
		arms = append(arms, arm(p.pat(a.P), p.expr(a.E)))
	}
	x.L, x.Arms = l, arms
	return x
}

func (p *places) pat(x api.Pat) api.Pat {
	x.At = p.at()
	l := []api.Pat{}
	for _, k := range x.L {
		l = append(l, p.pat(k))
	}
	x.L = l
	return x
}

func (p *places) ty(x api.Ty) api.Ty {
	x.At = p.at()
	l := []api.Ty{}
	for _, k := range x.L {
		l = append(l, p.ty(k))
	}
	x.L = l
	return x
}

func (p *places) decl(d api.Decl) api.Decl {
	d.At = p.at()
	d.E = p.expr(d.E)
	d.Params = append([]string{}, d.Params...)
	l := []api.ConDecl{}
	for _, c := range d.Cons {
		fs := []api.Field{}
		for _, f := range c.Fields {
			fs = append(fs, field(f.M, p.ty(f.T)))
		}
		l = append(l, api.ConDecl{Name: c.Name, At: p.at(), Fields: fs})
	}
	d.Cons = l
	return d
}

// dice is a row of numbers, the same each time.
type dice struct{ n uint64 }

func (d *dice) below(k int) int {
	d.n = d.n*6364136223846793005 + 1442695040888963407
	return int(d.n >> 33 % uint64(k))
}

// pick is one of l.
func (d *dice) pick(l ...string) string {
	return l[d.below(len(l))]
}

// Trees of what may be, up to n deep, or nearly; where rarely is above 0, one in so many fields is what it may not be.

type sower struct {
	dice
	rarely int
}

func (d *sower) wrong() bool {
	return d.rarely > 0 && d.below(d.rarely) == 0
}

func (d *sower) name() string {
	if d.wrong() {
		return d.pick("", "A", "let", "open", "a b", "1", "_", "+", strings.Repeat("a", 25), "a\xff", "\u00e4")
	}
	return d.pick("a", "b", "a'", "x_1", strings.Repeat("a", 24))
}

func (d *sower) con() string {
	if d.wrong() {
		return d.pick("", "a", "in", "len", "A B", "A-", strings.Repeat("A", 25), "A\n")
	}
	return d.pick("A", "B", "Cons", strings.Repeat("A", 24))
}

func (d *sower) num() int64 {
	if d.wrong() {
		return []int64{-1, api.MaxInt + 1, -1 << 63, 1<<63 - 1}[d.below(4)]
	}
	return []int64{0, 1, 12, api.MaxInt}[d.below(4)]
}

func (d *sower) text() string {
	if d.wrong() {
		return d.pick("\xff", "a\xc3", "\xed\xa0\x80")
	}
	return d.pick("", "a", "\n\t\"\\", "\u20ac -- (")
}

func (d *sower) mult() api.Mult {
	if d.wrong() {
		return []api.Mult{0, 4, 255}[d.below(3)]
	}
	return api.Mult(1 + d.below(3))
}

func (d *sower) exprs(n, k int) []api.Expr {
	if d.wrong() {
		k += d.below(3) - 1
	}
	var l []api.Expr
	for range k {
		l = append(l, d.expr(n-1))
	}
	return l
}

func (d *sower) expr(n int) api.Expr {
	x := api.Expr{Kind: uint8(1 + d.below(10))}
	if n <= 1 {
		x.Kind = uint8([]int{1, 2, 3, 9, 10}[d.below(5)])
	}
	switch x.Kind {
	case 1:
		x.S = d.name()
	case 2:
		x.N = d.num()
	case 3:
		x.S = d.text()
	case 4:
		x.S, x.L = d.name(), d.exprs(n, 1)
	case 5:
		x.L = d.exprs(n, 2)
	case 6, 7:
		x.S, x.L = d.name(), d.exprs(n, 2)
	case 8:
		x.L = d.exprs(n, 1)
		for range 1 + d.below(3) {
			x.Arms = append(x.Arms, arm(d.pat(n-1), d.expr(n-1)))
		}
		if d.wrong() {
			x.Arms = nil
		}
	case 9:
		x.S, x.L = d.con(), d.exprs(n, d.below(4)*min(1, n-1))
	case 10:
		x.S, x.L = d.pick(strings.Fields(primList)...), d.exprs(n, d.below(4)*min(1, n-1))
		if d.below(2) == 0 && n > 1 {
			x.S, x.L = d.pick(strings.Fields(opList)...), d.exprs(n, 2)
		}
	}
	switch {
	case d.wrong():
		x.Kind = uint8(d.below(12))
	case d.wrong():
		x.N++
	case d.wrong():
		x.S += "a"
	case d.wrong():
		x.Arms = append(x.Arms, arm(d.pat(1), d.expr(1)))
	}
	return x
}

func (d *sower) pat(n int) api.Pat {
	x := api.Pat{Kind: uint8(1 + d.below(5))}
	switch x.Kind {
	case 1:
		x.S = d.name()
	case 3:
		x.N = d.num()
	case 4:
		x.S = d.text()
	case 5:
		x.S = d.con()
		for range d.below(4) * min(1, n-1) {
			x.L = append(x.L, d.pat(n-1))
		}
	}
	switch {
	case d.wrong():
		x.Kind = uint8(d.below(7))
	case d.wrong():
		x.N++
	case d.wrong():
		x.S += "a"
	case d.wrong():
		x.L = append(x.L, d.pat(1))
	}
	return x
}

func (d *sower) ty(n int) api.Ty {
	x := api.Ty{Kind: uint8(1 + d.below(3))}
	if n <= 1 {
		x.Kind = uint8(1 + d.below(2))
	}
	switch x.Kind {
	case 1:
		x.S = d.name()
	case 2:
		x.S = d.con()
		for range d.below(4) * min(1, n-1) {
			x.L = append(x.L, d.ty(n-1))
		}
	case 3:
		x.M = d.mult()
		x.L = []api.Ty{d.ty(n - 1), d.ty(n - 1)}
	}
	switch {
	case d.wrong():
		x.Kind = uint8(d.below(5))
	case d.wrong():
		x.M++
	case d.wrong():
		x.S += "a"
	case d.wrong():
		x.L = append(x.L, d.ty(1))
	}
	return x
}

func (d *sower) decl(n int) api.Decl {
	x := dlet(d.name(), d.expr(n))
	x.Rec = d.below(2) == 0
	if d.below(2) == 0 {
		x = ddata(d.con(), nil)
		for range d.below(4) {
			x.Params = append(x.Params, d.name())
		}
		for range 1 + d.below(3) {
			c := cdecl(d.con())
			for range d.below(4) {
				c.Fields = append(c.Fields, field(d.mult(), d.ty(n)))
			}
			x.Cons = append(x.Cons, c)
		}
	}
	switch {
	case d.wrong():
		x.Kind = uint8(d.below(4))
	case d.wrong():
		x.Rec = !x.Rec
	case d.wrong():
		x.Params = append(x.Params, "a")
	case d.wrong():
		x.Cons = append(x.Cons, cdecl("A"))
	case d.wrong():
		x.Cons = nil
	case d.wrong():
		x.E = d.expr(1)
	}
	return x
}
