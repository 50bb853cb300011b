package parse

import (
	"runtime/debug"
	"strings"
	"testing"

	"usufruct/api"
)

// nests is ways in which an expression stands within another one: a text is as many times the first one, then the second one, and as many times the third one.
// Each time it is by so much deeper; its place, if there is one around at least, is at that byte.
func nests() []struct {
	open, in, shut string
	by, at         int
} {
	return []struct {
		open, in, shut string
		by, at         int
	}{
		{`\x->`, "a", "", 1, 1},
		{"A(", "a", ")", 1, 0},
		{"len(", "a", ")", 1, 0},
		{"f(", "a", ")", 1, 0},
		{"(", "a", ")f", 1, -1},
		{"(1+", "a", ")", 1, 2},
		{"let x=", "a", " in b", 1, 0},
		{"let x=b in ", "a", "", 1, 0},
		{"let rec x=", "a", " in b", 1, 0},
		{"let x y=", "a", " in b", 2, 0},
		{"case ", "a", " of{_->b}", 1, 0},
		{"case b of{_->", "a", "}", 1, 0},
		{"case b of{_->b;_->", "a", ";_->b}", 1, 0},
		{"", "a", " f", 1, 0},
		{"", "a", "+f", 1, -1},
		{"", "a", "++f", 1, -1},
		{"", "a", "%f", 1, -1},
	}
}

// depths is some numbers up to 70, each one around MaxDepth and half of it.
func depths() []int {
	var l []int
	for n := 1; n <= 70; n++ {
		if n < 4 || 28 <= n && n < 32 || 56 <= n && n < 64 || n == 70 {
			l = append(l, n)
		}
	}
	return l
}

// TestP121MaxDepth holds expressions of a depth up to MaxDepth, and more, alone and in declarations.
func TestP121MaxDepth(t *testing.T) {
	g := newGrammar()
	for _, x := range nests() {
		for _, n := range depths() {
			s := strings.Repeat(x.open, n) + x.in + strings.Repeat(x.shut, n)
			if !g.asModel(s) || !g.asModel("let f="+s) || !g.asModel("let f x y="+s) || !g.asModel("let f=a let g="+s+" data T=A") {
				t.Fatalf("%q", s)
			}
			if deep := 1+n*x.by > 60; deep {
				refused(t, "let f="+s, api.ErrDeep, line(4))
				refused(t, "data T=A\nlet rec g ="+s, api.ErrDeep, api.Pos{At: 17, Line: 2, Col: 9})
				refused(t, "let f="+s+" let g="+s, api.ErrDeep, line(4))
				refused(t, "let f=a let g="+s+" let h="+s, api.ErrDeep, line(12))
				refused(t, "let f="+s+" let", api.ErrSyntax, line(10+len(s)))
				refused(t, "let f="+s+")", api.ErrSyntax, line(6+len(s)))
				refused(t, "let f="+s+" 01", api.ErrToken, line(7+len(s)))
				refusedExpr(t, s+")", api.ErrSyntax, line(len(s)))
				refusedExpr(t, s+" \"", api.ErrOpen, line(1+len(s)))
				if x.at >= 0 {
					refusedExpr(t, s, api.ErrDeep, line(x.at))
					refusedExpr(t, "(\n"+s+")", api.ErrDeep, api.Pos{At: 2 + x.at, Line: 2, Col: 1 + x.at})
				}
			} else if _, d := Expr(s); d != (api.Diag{}) {
				t.Errorf("%q: %v", s, d)
			} else if l, d := Parse("let f=" + s); d != (api.Diag{}) || len(l) != 1 {
				t.Errorf("%q: %v", s, d)
			}
		}
	}
}

func TestP121MaxDepthOfPatterns(t *testing.T) {
	g := newGrammar()
	for n := 1; n <= 70; n++ {
		p := strings.Repeat("A(", n) + "_" + strings.Repeat(")", n)
		for _, s := range []string{"case a of{" + p + "->b}", `\x->case a of{_->b;` + p + "->b}", "case a of{" + strings.Repeat("(", n) + p + strings.Repeat(")", n) + "->b}"} {
			if !g.asModel(s) || !g.asModel("let f x = "+s) {
				t.Fatalf("%q", s)
			}
		}
		s := "case a of{" + p + "->b}"
		if n >= 59 { // the pattern and the case are of n + 2
			refusedExpr(t, "( "+s+")", api.ErrDeep, line(2))
			refused(t, "let f="+s, api.ErrDeep, line(4))
		} else {
			if _, d := Expr(s); d != (api.Diag{}) {
				t.Error(n, d)
			}
		}
	}
}

func TestP121MaxDepthOfTypes(t *testing.T) {
	g := newGrammar()
	for n := 1; n <= 70; n++ {
		for _, x := range []struct {
			s  string
			at int
		}{
			{strings.Repeat("a-1>", n) + "a", 1},
			{strings.Repeat("A(", n) + "a" + strings.Repeat(")", n), 0},
			{strings.Repeat("A a(", n) + "a" + strings.Repeat(")b", n), 0},
			{strings.Repeat("(", n) + "a" + strings.Repeat("-*>a)", n), 2*n + 1 + 5*(n-1) - n},
		} {
			if !g.asModel(x.s) || !g.asModel("data T = A * ("+x.s+")") || !g.asModel("let f = a data T = A | B ? a 1 ("+x.s+") | C data U = A") {
				t.Fatalf("%q", x.s)
			}
			if n < 60 {
				if y, d := Type(x.s); d != (api.Diag{}) || deepTy(y) != n+1 {
					t.Errorf("%q: %v", x.s, d)
				}
				continue
			}
			refusedType(t, x.s, api.ErrDeep, line(x.at))
			refusedType(t, x.s+" 1", api.ErrSyntax, line(len(x.s)+1))
			refused(t, "data T = A * ("+x.s+")", api.ErrDeep, line(5))
			refused(t, "data T = A\ndata U a = A | B ? a 1 ("+x.s+") data V = A 1 ("+x.s+")", api.ErrDeep, api.Pos{At: 16, Line: 2, Col: 6})
			refused(t, "data T = A * ("+x.s+") |", api.ErrSyntax, end("data T = A * ("+x.s+") |"))
			refused(t, "data T = A * ("+x.s, api.ErrSyntax, end("data T = A * ("+x.s))
		}
	}
}

// Names ahead of = and -> are lambdas, so that they make it deeper.
func TestP121MaxDepthOfNames(t *testing.T) {
	for n := 55; n < 65; n++ {
		names := strings.Repeat(" x", n)
		if n < 60 {
			if l, d := Parse("let f" + names + " = a"); d != (api.Diag{}) || deepDecl(l[0]) != n+1 {
				t.Error(n, d)
			}
			if x, d := Expr(`\` + names + " -> a"); d != (api.Diag{}) || deepExpr(x) != n+1 {
				t.Error(n, d)
			}
		} else {
			refused(t, "let f"+names+" = a", api.ErrDeep, line(4))
			refused(t, "let g = a let rec f"+names+" = a let h"+names+" = a", api.ErrDeep, line(18))
			refusedExpr(t, `\`+names+" -> a", api.ErrDeep, line(2))
		}
		if _, d := Parse("data T" + names + " = A" + strings.Repeat(" 1 T", n) + strings.Repeat(" | A", n)); d != (api.Diag{}) {
			t.Error("neither parameters nor fields nor constructors make it deeper", n, d)
		}
		if _, d := Expr("A" + names + " (len" + names + ")"); d != (api.Diag{}) {
			t.Error("neither do kids of constructors and primitives", n, d)
		}
		if _, d := Expr(strings.Repeat("(", n) + "a" + strings.Repeat(")", n)); d != (api.Diag{}) {
			t.Error("neither do brackets", n, d)
		}
	}
}

// full is open and shut as often as they go into MaxText bytes around in, and blanks.
func full(open, in, shut string) string {
	n := (api.MaxText - len(in)) / (len(open) + len(shut))
	s := strings.Repeat(open, n) + in + strings.Repeat(shut, n)
	return s + strings.Repeat(" ", api.MaxText-len(s))
}

// TestP121MaxText holds texts of MaxText bytes that are as deep as they get, right ones and such as end too early.
func TestP121MaxText(t *testing.T) {
	defer debug.SetMaxStack(debug.SetMaxStack(64 << 20))
	g := newGrammar()
	for _, x := range append(nests(), []struct {
		open, in, shut string
		by, at         int
	}{
		{"(", "a", ")", 0, 0}, {"(", "", "", 0, 0}, {`\x->`, "", "", 0, 0}, {"case ", "", "", 0, 0}, {"let x=", "", "", 0, 0}, {"A(", "", "", 0, 0}, {"a+", "", "", 0, 0}, {"a ", "", "", 0, 0}, {"a-1>", "a", "", 0, 0}, {"a-?>", "", "", 0, 0}, {"(a-*>", "a", ")", 0, 0},
		{"(", "a", "-1>a)", 0, 0}, {"case a of{_->", "", "", 0, 0}, {"let f=a ", "", "", 0, 0}, {"data T=A ", "", "", 0, 0}, {"let f=", "", "", 0, 0},
	}...) {
		s := full(x.open, x.in, x.shut)
		if len(s) != api.MaxText || !g.asModel(s) {
			t.Fatalf("%q", s[:20])
		}
		if !g.asModel(s[:1234]) || !g.asModel("let f="+s[:api.MaxText-6]) || !g.asModel("data T=A 1("+s[:api.MaxText-11]) {
			t.Fatalf("a part of %q", s[:20])
		}
		for _, s := range []string{s + " ", s + "a", s + s, s + "\xff"} {
			refused(t, s, api.ErrLong, api.Pos{})
			refusedExpr(t, s, api.ErrLong, api.Pos{})
			refusedType(t, s, api.ErrLong, api.Pos{})
		}
	}
	for _, in := range []string{"case a of{", "case a of{A"} { // patterns
		n := (api.MaxText - len(in) - len("_->a}")) / 2
		s := in + strings.Repeat("(", n) + "_" + strings.Repeat(")", n) + "->a}"
		if !g.asModel(s) || !g.asModel(in+strings.Repeat("(", api.MaxText-len(in))) || !g.asModel(in+strings.Repeat("A(", (api.MaxText-len(in))/2)) {
			t.Fatalf("%q", s[:20])
		}
		if x, d := Expr(s); d != (api.Diag{}) || len(x.Arms) != 1 {
			t.Error(d)
		}
	}
	s := full("(", "a", ")")
	isExpr(t, s, "a@1999")
	isType(t, s, "a@1999")
	refusedExpr(t, full(`\x->`, "a", ""), api.ErrDeep, line(1))
	refusedType(t, full("a-?>", "a", ""), api.ErrDeep, line(1))
	refusedExpr(t, full("(", "", ""), api.ErrSyntax, line(api.MaxText))
	refusedExpr(t, full("1+", "1", ""), api.ErrDeep, line(3997))
	refused(t, "let f="+strings.Repeat(`\x->`, 998)+"a", api.ErrDeep, line(4))
	refused(t, "let f="+strings.Repeat(`\x->`, 998)+"a)", api.ErrSyntax, line(3999))
}
