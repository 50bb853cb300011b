package parse

import (
	"reflect"
	"slices"
	"strconv"
	"strings"
	"testing"

	"usufruct/api"
	"usufruct/lex"
	"usufruct/utf"
)

// How trees are told here: what each has of its own, @ and the byte of its place, and its kids in braces.

func at(p api.Pos) string { return "@" + strconv.Itoa(p.At) }

func inBraces[T any](l []T, tell func(T) string) string {
	if len(l) == 0 {
		return ""
	}
	var kids []string
	for _, k := range l {
		kids = append(kids, tell(k))
	}
	return "{" + strings.Join(kids, " ") + "}"
}

func toldExpr(x api.Expr) string {
	own := map[uint8]string{
		api.ExName: x.S, api.ExInt: strconv.FormatInt(x.N, 10), api.ExStr: strconv.Quote(x.S), api.ExLam: "lam " + x.S, api.ExApp: "app",
		api.ExLet: "let " + x.S, api.ExRec: "rec " + x.S, api.ExCase: "case", api.ExCon: x.S, api.ExPrim: "prim " + x.S,
	}[x.Kind]
	return own + at(x.At) + inBraces(x.L, toldExpr) + inBraces(x.Arms, func(a api.Arm) string { return toldPat(a.P) + " -> " + toldExpr(a.E) })
}

func toldPat(x api.Pat) string {
	own := map[uint8]string{api.PtName: x.S, api.PtAny: "_", api.PtInt: strconv.FormatInt(x.N, 10), api.PtStr: strconv.Quote(x.S), api.PtCon: x.S}[x.Kind]
	return own + at(x.At) + inBraces(x.L, toldPat)
}

func toldTy(x api.Ty) string {
	own := x.S
	if x.Kind == api.TyFun {
		own = "-" + "1?*"[x.M-1:x.M] + ">"
	}
	return own + at(x.At) + inBraces(x.L, toldTy)
}

func toldDecl(d api.Decl) string {
	if d.Kind == api.DcLet {
		if d.Rec {
			return "rec " + d.Name + at(d.At) + " = " + toldExpr(d.E)
		}
		return "let " + d.Name + at(d.At) + " = " + toldExpr(d.E)
	}
	field := func(f api.Field) string { return "1?*"[f.M-1:f.M] + " " + toldTy(f.T) }
	con := func(c api.ConDecl) string { return c.Name + at(c.At) + inBraces(c.Fields, field) }
	return strings.Join(append([]string{"data", d.Name + at(d.At)}, d.Params...), " ") + " " + inBraces(d.Cons, con)
}

func told(l []api.Decl) string {
	var all []string
	for _, d := range l {
		all = append(all, toldDecl(d))
	}
	return strings.Join(all, "; ")
}

// What each of the three calls is to answer.

func is(t *testing.T, s, want string) {
	t.Helper()
	if l, d := Parse(s); told(l) != want || d != (api.Diag{}) {
		t.Errorf("%q is %s %v, not %s", s, told(l), d, want)
	}
}

func isExpr(t *testing.T, s, want string) {
	t.Helper()
	if x, d := Expr(s); d != (api.Diag{}) || toldExpr(x) != want {
		t.Errorf("%q is %s %v, not %s", s, toldExpr(x), d, want)
	}
}

func isType(t *testing.T, s, want string) {
	t.Helper()
	if x, d := Type(s); d != (api.Diag{}) || toldTy(x) != want {
		t.Errorf("%q is %s %v, not %s", s, toldTy(x), d, want)
	}
}

func refused(t *testing.T, s string, e api.Errno, at api.Pos) {
	t.Helper()
	if l, d := Parse(s); len(l) != 0 || d != (api.Diag{E: e, At: at}) {
		t.Errorf("%q is %s %v, not %v %v", s, told(l), d, e, at)
	}
}

func refusedExpr(t *testing.T, s string, e api.Errno, at api.Pos) {
	t.Helper()
	if x, d := Expr(s); !reflect.DeepEqual(x, api.Expr{}) || d != (api.Diag{E: e, At: at}) {
		t.Errorf("%q is %v %v, not %v %v", s, x, d, e, at)
	}
}

func refusedType(t *testing.T, s string, e api.Errno, at api.Pos) {
	t.Helper()
	if x, d := Type(s); !reflect.DeepEqual(x, api.Ty{}) || d != (api.Diag{E: e, At: at}) {
		t.Errorf("%q is %v %v, not %v %v", s, x, d, e, at)
	}
}

// line is the place of a byte of a text's first line.
func line(at int) api.Pos { return api.Pos{At: at, Line: 1, Col: at + 1} }

// end is the place behind s.
func end(s string) api.Pos {
	p, _ := utf.End(s)
	return p
}

func TestP121Examples(t *testing.T) {
	isExpr(t, "f a b + 1 * 2", "prim +@6{app@0{app@0{f@0 a@2} b@4} prim *@10{1@8 2@12}}")
	isExpr(t, `\x y -> A x 1`, "lam x@1{lam y@3{A@8{x@10 1@12}}}")
	isType(t, "a -1> List a -*> b", "-1>@2{a@0 -*>@13{List@6{a@11} b@17}}")
	is(t, "let f x = x data T = A 1T", "let f@4 = lam x@6{x@10}; data T@17 {A@21{1 T@24}}")
	refusedExpr(t, "a < b < c", api.ErrSyntax, line(6))
	refusedExpr(t, "a (", api.ErrSyntax, line(3))
	refusedExpr(t, "a ()", api.ErrSyntax, line(3))
	refusedExpr(t, "case a of {}", api.ErrSyntax, line(11))
	refused(t, "data T = A 2T", api.ErrSyntax, line(11))
}

// rows is a text of each form of each row: declarations, expressions and types.
func rows() (decls, exprs, types [][2]string) {
	decls = [][2]string{
		{"", ""},
		{"data T = A", "data T@5 {A@9}"},
		{"data T = A data U = B", "data T@5 {A@9}; data U@16 {B@20}"},
		{"data T a = A | B", "data T@5 a {A@11 B@15}"},
		{"data T a b c = A | B | C", "data T@5 a b c {A@15 B@19 C@23}"},
		{"data T = A 1 a", "data T@5 {A@9{1 a@13}}"},
		{"data T = A ? a * B 1 ( a )", "data T@5 {A@9{? a@13 * B@17 1 a@23}}"},
		{"data T = A 1 ( B a C ) | D 1 ( a -?> b )", "data T@5 {A@9{1 B@15{a@17 C@19}} D@25{1 -?>@33{a@31 b@37}}}"},
		{"let f = a", "let f@4 = a@8"},
		{"let rec f = a", "rec f@8 = a@12"},
		{"let f x = a", "let f@4 = lam x@6{a@10}"},
		{"let f x y z = a", "let f@4 = lam x@6{lam y@8{lam z@10{a@14}}}"},
		{"let rec f x y = a", "rec f@8 = lam x@10{lam y@12{a@16}}"},
		{`let f x = \ y -> a`, "let f@4 = lam x@6{lam y@12{a@17}}"},
		{"let f = a let g = b", "let f@4 = a@8; let g@14 = b@18"},
		{"let f = let g = b in c let h = d", "let f@4 = let g@8{b@16 c@21}; let h@27 = d@31"},
		{"let f = case a of { b -> c } data T = A 1 B let g = C", "let f@4 = case@8{a@13}{b@20 -> c@25}; data T@34 {A@38{1 B@42}}; let g@48 = C@52"},
	}
	exprs = [][2]string{
		{`\ x -> a`, "lam x@2{a@7}"},
		{`\ x y -> a`, "lam x@2{lam y@4{a@9}}"},
		{`\ x y z -> \ u -> a b`, "lam x@2{lam y@4{lam z@6{lam u@13{app@18{a@18 b@20}}}}}"},
		{`\ x -> let y = z in x`, "lam x@2{let y@7{z@15 x@20}}"},
		{"let x = a in b", "let x@0{a@8 b@13}"},
		{"let rec x = a in b", "rec x@0{a@12 b@17}"},
		{"let x y = a in b", "let x@0{lam y@6{a@10} b@15}"},
		{"let rec x y z = a in b", "rec x@0{lam y@10{lam z@12{a@16}} b@21}"},
		{"let x = let y = a in b in let z = c in d", "let x@0{let y@8{a@16 b@21} let z@26{c@34 d@39}}"},
		{"case a of { x -> b }", "case@0{a@5}{x@12 -> b@17}"},
		{"case a of { x -> b ; _ -> c ; 2 -> d }", "case@0{a@5}{x@12 -> b@17 _@21 -> c@26 2@30 -> d@35}"},
		{`case a of { "s" -> b ; A -> c ; A x _ 1 "t" B -> d }`, `case@0{a@5}{"s"@12 -> b@19 A@23 -> c@28 A@32{x@34 _@36 1@38 "t"@40 B@44} -> d@49}`},
		{"case a of { ( x ) -> b ; A ( B x ) ( C ) ( _ ) -> c }", "case@0{a@5}{x@14 -> b@21 A@25{B@29{x@31} C@37 _@43} -> c@50}"},
		{"case case a of { x -> b } of { y -> case c of { z -> d } }", "case@0{case@5{a@10}{x@17 -> b@22}}{y@31 -> case@36{c@41}{z@48 -> d@53}}"},
		{`case \ x -> a of { y -> \ z -> b ; _ -> let u = c in d }`, "case@0{lam x@7{a@12}}{y@19 -> lam z@26{b@31} _@35 -> let u@40{c@48 d@53}}"},
		{"a < b", "prim <@2{a@0 b@4}"},
		{"a == b", "prim ==@2{a@0 b@5}"},
		{"a ++ b", "prim ++@2{a@0 b@5}"},
		{"a ++ b ++ c", "prim ++@7{prim ++@2{a@0 b@5} c@10}"},
		{"a + b", "prim +@2{a@0 b@4}"},
		{"a - b", "prim -@2{a@0 b@4}"},
		{"a + b - c + d", "prim +@10{prim -@6{prim +@2{a@0 b@4} c@8} d@12}"},
		{"a * b", "prim *@2{a@0 b@4}"},
		{"a / b", "prim /@2{a@0 b@4}"},
		{"a % b", "prim %@2{a@0 b@4}"},
		{"a * b / c % d * e", "prim *@14{prim %@10{prim /@6{prim *@2{a@0 b@4} c@8} d@12} e@16}"},
		{"A", "A@0"},
		{"A a", "A@0{a@2}"},
		{`A a B 1 "s" ( b )`, `A@0{a@2 B@4 1@6 "s"@8 b@14}`},
		{"open", "prim open@0"},
		{"len a", "prim len@0{a@4}"},
		{`set a B 1 "s" ( b )`, `prim set@0{a@4 B@6 1@8 "s"@10 b@16}`},
		{"a b", "app@0{a@0 b@2}"},
		{`a B 1 "s" ( b )`, `app@0{app@0{app@0{app@0{a@0 B@2} 1@4} "s"@6} b@12}`},
		{`1 a`, "app@0{1@0 a@2}"},
		{`"s" a`, `app@0{"s"@0 a@4}`},
		{"( A ) a", "app@2{A@2 a@6}"},
		{"( len ) a", "app@2{prim len@2 a@8}"},
		{"( a + b ) c d", "app@4{app@4{prim +@4{a@2 b@6} c@10} d@12}"},
		{"x", "x@0"},
		{"0", "0@0"},
		{`"s"`, `"s"@0`},
		{"( a )", "a@2"},
		{`( \ x -> a ) + ( let y = b in c ) * ( case d of { _ -> e } )`, "prim +@13{lam x@4{a@9} prim *@34{let y@17{b@25 c@30} case@38{d@43}{_@50 -> e@55}}}"},
	}
	types = [][2]string{
		{"a", "a@0"},
		{"A", "A@0"},
		{"A a", "A@0{a@2}"},
		{"A a B ( c )", "A@0{a@2 B@4 c@8}"},
		{"A ( B b ) ( a -1> b )", "A@0{B@4{b@6} -1>@14{a@12 b@18}}"},
		{"( a )", "a@2"},
		{"a -1> b", "-1>@2{a@0 b@6}"},
		{"a -?> b", "-?>@2{a@0 b@6}"},
		{"a -*> b", "-*>@2{a@0 b@6}"},
		{"a -1> b -?> c -*> d", "-1>@2{a@0 -?>@8{b@6 -*>@14{c@12 d@18}}}"},
		{"( a -1> b ) -?> c", "-?>@12{-1>@4{a@2 b@8} c@16}"},
		{"A a -1> B b", "-1>@4{A@0{a@2} B@8{b@10}}"},
	}
	return decls, exprs, types
}

func TestP121Rows(t *testing.T) {
	decls, exprs, types := rows()
	for _, x := range decls {
		is(t, x[0], x[1])
	}
	for _, x := range exprs {
		isExpr(t, x[0], x[1])
		is(t, "let f="+x[0], "let f@4 = "+shifted(x[1], 6))
		is(t, "let rec f x="+x[0]+" let g="+x[0], "rec f@8 = lam x@10{"+shifted(x[1], 12)+"}; let g@"+strconv.Itoa(17+len(x[0]))+" = "+shifted(x[1], 19+len(x[0])))
	}
	for _, x := range types {
		isType(t, x[0], x[1])
		is(t, "data T = A * ("+x[0]+")", "data T@5 {A@9{* "+shifted(x[1], 14)+"}}")
	}
}

// shifted is what is told, with places so many bytes on.
func shifted(s string, by int) string {
	pieces := strings.Split(s, "@")
	for i, p := range pieces[1:] {
		n := len(p) - len(strings.TrimLeft(p, "0123456789"))
		k, _ := strconv.Atoi(p[:n])
		pieces[i+1] = strconv.Itoa(k+by) + p[n:]
	}
	return strings.Join(pieces, "@")
}

// anyToken is each sign and each word, and some of each other kind of tokens.
func anyToken() []string {
	return append(append(append(lex.Words(), lex.Prims()...), lex.Signs()...), "x", "C", "0", "1", "2", `"s"`, `"("`, `"x"`)
}

// rowTexts is all texts of the rows.
func rowTexts() []string {
	var all []string
	decls, exprs, types := rows()
	for _, x := range slices.Concat(decls, exprs, types) {
		all = append(all, x[0])
	}
	for _, x := range exprs {
		all = append(all, "let f = "+x[0]+" let g = 1")
	}
	for _, x := range types {
		all = append(all, "data T a = A 1 ( "+x[0]+" ) | B")
	}
	return all
}

// Each row's texts, cut behind each token, and with each one changed for each other one, or left out.
func TestP121RowsChanged(t *testing.T) {
	g := newGrammar()
	for _, s := range rowTexts() {
		words := strings.Fields(s)
		if !g.asModel(s) {
			t.Errorf("%q", s)
		}
		for i := range words {
			if cut := strings.Join(words[:i+1], " "); !g.asModel(cut) {
				t.Fatalf("%q", cut)
			}
			for _, x := range append(anyToken(), "") {
				changed := slices.Clone(words)
				changed[i] = x
				if c := strings.Join(changed, " "); !g.asModel(c) {
					t.Fatalf("%q", c)
				}
			}
		}
	}
}

// Where texts go wrong, told by hand.
func TestP121Wrong(t *testing.T) {
	for _, x := range []struct {
		s  string
		at int
	}{
		{"x", 0}, {"1", 0}, {"A", 0}, {"( let f = a )", 0}, {"in", 0}, {"rec", 0}, {"= a", 0}, {"let f = a ;", 10}, {"let f = a in b", 10}, {"let f = a )", 10}, {"let f = a }", 10}, {"let f = a of", 10}, {"let f = a | b", 10}, {"let f = a = b", 10},
		{"let F = a", 4}, {"let 1 = a", 4}, {"let open = a", 4}, {"let _ = a", 4}, {"let let = a", 4}, {"let ( f ) = a", 4}, {"let rec rec f = a", 8}, {"let rec = a", 8}, {"let f 1 = a", 6}, {"let f _ = a", 6}, {"let f A = a", 6}, {"let f -> a", 6}, {"let f x let", 8}, {"let f == a", 6}, {"let f = = a", 8},
		{"data t = A", 5}, {"data = A", 5}, {"data 1 = A", 5}, {"data T A = A", 7}, {"data T 1 = A", 7}, {"data T = a", 9}, {"data T = | A", 9}, {"data T = A | | B", 13}, {"data T = A | data U = B", 13}, {"data T = A B", 11}, {"data T = A a", 11}, {"data T = A ( a )", 11}, {"data T = A 0 a", 11}, {"data T = A 2 a", 11}, {"data T = A 11 a", 11},
		{`data T = A "" a`, 11}, {`data T = A "1" a`, 11}, {"data T = A 1 1 a", 13}, {"data T = A 1 ? a", 13}, {"data T = A 1 | B", 13}, {"data T = A 1 B b", 15}, {"data T = A 1 B C", 15}, {"data T = A 1 a b", 15}, {"data T = A 1 a -1> b", 15}, {"data T = A 1 ( a b )", 17}, {"data T = A 1 ( )", 15}, {"data T = A 1 _", 13}, {"data T = A + a", 11}, {"data T = A -1> a", 11}, {"data T = A ; data U = B", 11}, {"data T == A", 7}, {"data rec T = A", 5},
		{"let f = data T = A", 8}, {"let f = 1 + data T = A", 12}, {"let f = let g = 1 data T = A", 18}, {"let f = let g = 1 let h = 2", 18}, {"let f = ( 1 let g = 2", 12},
	} {
		refused(t, x.s, api.ErrSyntax, line(x.at))
		refused(t, x.s+" \"", api.ErrOpen, line(len(x.s)+1))
		refused(t, "let e = case e of { _ -> e } "+x.s, api.ErrSyntax, line(x.at+29))
	}
	for _, x := range []struct {
		s  string
		at int
	}{
		{")", 0}, {"( )", 2}, {"( a", 3}, {"( a ) )", 6}, {"( a b", 5}, {"( a ; b )", 4}, {"a )", 2}, {"{ a }", 0}, {"a { b }", 2}, {"_", 0}, {"a _", 2}, {"-> a", 0}, {"a -> b", 2}, {"a -1> b", 2}, {"a = b", 2}, {"a | b", 2}, {"a ; b", 2}, {"a ? b", 2},
		{"- a", 0}, {"-1", 0}, {"a - - b", 4}, {"a + * b", 4}, {"+ a b", 0}, {"a +", 3}, {"a + )", 4}, {"a ++", 4}, {"a <", 3}, {"a ==", 4}, {"a < < b", 4}, {"a < b == c", 6}, {"a == b < c", 7}, {"a == b == c", 7}, {"a < b ++ c < d", 11}, {"a < b + c == d", 10}, {"( a < b < c )", 8}, {"a < b ++ < c", 9},
		{"a + \\ x -> b", 4}, {"a \\ x -> b", 2}, {"a let x = b in c", 2}, {"a case b of { _ -> c }", 2}, {"a < let x = b in c", 4}, {"a * case b of { _ -> c }", 4}, {"A \\ x -> b", 2}, {"len let x = b in c", 4}, {"a open", 2}, {"A open", 2}, {"open open", 5}, {"a open b", 2}, {"len ( open len )", 11},
		{"\\", 1}, {"\\ -> a", 2}, {"\\ X -> a", 2}, {"\\ _ -> a", 2}, {"\\ ( x ) -> a", 2}, {"\\ 1 -> a", 2}, {"\\ x", 3}, {"\\ x a", 5}, {"\\ x = a", 4}, {"\\ x ->", 6}, {"\\ x -> )", 7}, {"\\ x -1> a", 4}, {"\\ x \\ y -> a", 4}, {"\\ rec -> a", 2},
		{"let", 3}, {"let x", 5}, {"let x =", 7}, {"let x = a", 9}, {"let x = a in", 12}, {"let x = a b", 11}, {"let x = a ; b", 10}, {"let x = a let y = b in c", 10}, {"let X = a in b", 4}, {"let ( x ) = a in b", 4}, {"let rec rec = a in b", 8}, {"let rec", 7}, {"let x -> a in b", 6}, {"let x 1 = a in b", 6}, {"let x == a in b", 6}, {"let x = in b", 8}, {"let x = a of b", 10}, {"let x = a in b in c", 15},
		{"case", 4}, {"case of", 5}, {"case a", 6}, {"case a { b -> c }", 7}, {"case a of", 9}, {"case a of b", 10}, {"case a of ( b -> c )", 10}, {"case a of {", 11}, {"case a of { }", 12}, {"case a of { ; b -> c }", 12}, {"case a of { b }", 14}, {"case a of { b = c }", 14}, {"case a of { b -> }", 17}, {"case a of { b -> c", 18}, {"case a of { b -> c ; }", 21}, {"case a of { b -> c ; ; d -> e }", 21}, {"case a of { b -> c d -> e }", 21}, {"case a of { b -> c | d -> e }", 19}, {"case a of { b -> c } d", 21}, {"case a of { b -> c } + d", 21}, {"case a of { b -> c )", 19}, {"case a in { b -> c }", 7},
		{"case a of { b c -> d }", 14}, {"case a of { 1 c -> d }", 14}, {"case a of { _ _ -> d }", 14}, {"case a of { ( A ) c -> d }", 18}, {"case a of { ( a b ) -> d }", 16}, {"case a of { ( ) -> d }", 14}, {"case a of { - 1 -> d }", 12}, {"case a of { A - 1 -> d }", 14}, {"case a of { A open -> d }", 14}, {"case a of { open -> d }", 12}, {"case a of { A ( b -> d }", 18}, {"case a of { A ( B ) c ) -> d }", 22}, {"case a of { a + b -> d }", 14}, {"case a of { -> d }", 12}, {"case a of { let -> d }", 12}, {"case a of { A -1> d }", 14}, {"case a of { A { b } -> d }", 14},
		{"", 0}, {"a data T = A", 2}, {"a in b", 2}, {"a of b", 2}, {"rec a", 0}, {"data T = A", 0}, {"a rec", 2},
	} {
		refusedExpr(t, x.s, api.ErrSyntax, line(x.at))
		if x.at == len(x.s) {
			refusedExpr(t, x.s+" ?", api.ErrSyntax, line(x.at+1))
			refusedExpr(t, x.s+" -- a", api.ErrSyntax, line(x.at+5))
			refusedExpr(t, x.s+"\n\n ", api.ErrSyntax, api.Pos{At: x.at + 3, Line: 3, Col: 2})
		} else {
			refusedExpr(t, x.s+" }", api.ErrSyntax, line(x.at))
			refusedExpr(t, x.s+" \\ a ( (", api.ErrSyntax, line(x.at))
			if b := x.s[x.at:]; !strings.HasPrefix(b, "let") && !strings.HasPrefix(b, "data") || x.at == 0 { // others begin a declaration
				refused(t, "let f = "+x.s, api.ErrSyntax, line(x.at+8))
			}
		}
		refusedExpr(t, x.s+" !", api.ErrToken, line(len(x.s)+1))
	}
}

func TestP122WrongTypes(t *testing.T) {
	for _, x := range []struct {
		s  string
		at int
	}{
		{"", 0}, {"1", 0}, {"_", 0}, {"?", 0}, {`"a"`, 0}, {"open", 0}, {"let", 0}, {"-1> a", 0}, {"( )", 2}, {"( a", 3}, {"( a ) )", 6}, {"a )", 2}, {"a b", 2}, {"a A", 2}, {"a ( b )", 2}, {"( A ) a", 6}, {"( A a ) b", 8}, {"A 1", 2}, {"A ? a", 2}, {"A * a", 2}, {"A a 1", 4}, {`A "-1>" a`, 2},
		{"a -> b", 2}, {"a -1>", 5}, {"a -?>", 5}, {"a -*>", 5}, {"a -1> -1> b", 6}, {"a -1> )", 6}, {"a -1> 1", 6}, {"a - 1", 2}, {"a -1> b c", 8}, {"a -1> b -> c", 8}, {"( a -1> b", 9}, {"( a -1> b c )", 10}, {"A a -1> B -1>", 13}, {"A ( a -1> ) b", 10}, {"A ( ( a ) b", 10}, {"a = b", 2}, {"a | b", 2}, {"a ; b", 2}, {"A _", 2}, {"{ a }", 0}, {"data T = A", 0}, {"\\ x -> a", 0},
	} {
		refusedType(t, x.s, api.ErrSyntax, line(x.at))
		if x.at == len(x.s) {
			refusedType(t, x.s+" }", api.ErrSyntax, line(x.at+1))
			refusedType(t, x.s+" --", api.ErrSyntax, line(x.at+3))
			refusedType(t, x.s+"\r\n\t", api.ErrSyntax, api.Pos{At: x.at + 3, Line: 2, Col: 2})
		} else {
			refusedType(t, x.s+" }", api.ErrSyntax, line(x.at))
			if x.s[x.at] != ')' {
				refused(t, "data T = A 1 ( "+x.s, api.ErrSyntax, line(x.at+15))
			}
		}
		refusedType(t, x.s+" \"", api.ErrOpen, line(len(x.s)+1))
	}
}
