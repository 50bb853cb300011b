package parse

import (
	"reflect"
	"slices"
	"strings"
	"testing"

	"usufruct/api"
	"usufruct/lex"
	"usufruct/show"
)

// What is no row of tokens is told as lex tells it, whatever stands ahead of it.
func TestP121ErrorsOfLex(t *testing.T) {
	for _, x := range []struct {
		s  string
		e  api.Errno
		at int
	}{
		{"!", api.ErrToken, 0}, {"01", api.ErrToken, 0}, {`"\a"`, api.ErrToken, 1}, {`"a`, api.ErrOpen, 0}, {"1099511627777", api.ErrBigN, 0}, {strings.Repeat("a", 25), api.ErrLong, 0}, {strings.Repeat("A", 25), api.ErrLong, 0}, {"\xc3", api.ErrUtf, 0}, {"_'", api.ErrToken, 1},
	} {
		for _, ahead := range []string{"", " ", "let f = a ", "let f = (", "data T = A 1 ", "data T = A 2 T ", "a b ", ") ", "\\ ", "case a of { ", "A -1> ", "let let let ", strings.Repeat("\\ x -> ", 70), "( ( ( } "} {
			for _, behind := range []string{"", " a", ")"} {
				s := ahead + x.s
				if x.e != api.ErrLong && x.e != api.ErrBigN {
					s += behind
				}
				refused(t, s, x.e, line(len(ahead)+x.at))
				refusedExpr(t, s, x.e, line(len(ahead)+x.at))
				refusedType(t, s, x.e, line(len(ahead)+x.at))
				refusedExpr(t, "a\n\n"+s, x.e, api.Pos{At: 3 + len(ahead) + x.at, Line: 3, Col: 1 + len(ahead) + x.at})
			}
		}
	}
	long := strings.Repeat(" ", api.MaxText)
	is(t, long, "")
	refusedExpr(t, long, api.ErrSyntax, line(api.MaxText))
	refused(t, long+" ", api.ErrLong, api.Pos{})
}

// Where a text ends is told behind all that stands behind its last token.
func TestP121Ends(t *testing.T) {
	for _, behind := range []string{"", " ", "\n", "\t\r", "--", " -- a", "--\n", " -- \u20ac", " -- \u20ac\n", "\n\n  -- (\n --", "\r\n\r\n"} {
		for _, s := range []string{"", "(", "\\ x", "let x = ", "let x = a", "case a of { _ -> b", "A (", "a +", "a <", "a ++ ( b"} {
			refusedExpr(t, s+behind, api.ErrSyntax, end(s+behind))
			refusedExpr(t, behind+"\n"+s+behind, api.ErrSyntax, end(behind+"\n"+s+behind))
			if s != "" {
				refused(t, "let f = "+s+behind, api.ErrSyntax, end("let f = "+s+behind))
			}
		}
		for _, s := range []string{"", "(", "a -1>", "A ( a", "A ( a -*> b"} {
			refusedType(t, s+behind, api.ErrSyntax, end(s+behind))
		}
		for _, s := range []string{"let", "let rec", "let f", "let f x", "let f =", "data", "data T", "data T a", "data T =", "data T = A |", "data T = A 1", "data T = A ? (", "data T = A * ( T a"} {
			refused(t, s+behind, api.ErrSyntax, end(s+behind))
		}
		is(t, behind, "")
		is(t, "let f=a"+behind, "let f@4 = a@6")
		is(t, "data T=A"+behind, "data T@5 {A@7}")
		isExpr(t, "a"+behind, "a@0")
		isType(t, "a"+behind, "a@0")
	}
}

// written is a tree's writing by w.
func written(d *dice, more int, gaps bool, write func(w *writer)) string {
	w := &writer{dice: d, more: more, gaps: gaps}
	write(w)
	return w.text.String()
}

// TestP121Sown reads trees that are written in some of the ways in which they may be.
func TestP121Sown(t *testing.T) {
	g, d := newGrammar(), &dice{3}
	for i := range 4000 {
		l := someOf(d, 3, func() api.Decl { return d.decl(1 + i%6) })
		x, y := d.expr(1+i%6), d.ty(1+i%5)
		decls := written(d, i%3, i%2 == 0, func(w *writer) {
			for _, x := range l {
				w.decl(x)
			}
		})
		if got, diag := Parse(decls); diag != (api.Diag{}) && len(decls) <= api.MaxText || !g.asModel(decls) || diag.E == api.OK && !show.Same(got, l) {
			t.Fatalf("%q: %v", decls, diag)
		}
		expr := written(d, i%3, i%2 == 0, func(w *writer) { w.expr(x, asOne) })
		if got, diag := Expr(expr); diag != (api.Diag{}) && len(expr) <= api.MaxText || !g.asModel(expr) || diag.E == api.OK && !show.SameExpr(got, x) {
			t.Fatalf("%q: %v", expr, diag)
		}
		ty := written(d, i%3, i%2 == 0, func(w *writer) { w.ty(y, 0) })
		if got, diag := Type(ty); diag != (api.Diag{}) && len(ty) <= api.MaxText || !g.asModel(ty) || diag.E == api.OK && !sameTy(got, y) {
			t.Fatalf("%q: %v", ty, diag)
		}
	}
}

// sameTy says whether a and b are the same but for places.
func sameTy(a, b api.Ty) bool {
	return a.Kind == b.Kind && a.S == b.S && a.M == b.M && slices.EqualFunc(a.L, b.L, sameTy)
}

// sownTexts is n right texts of declarations.
func sownTexts(n int) []string {
	d := &dice{5}
	var all []string
	for len(all) < n {
		s := written(d, len(all)%3, len(all)%4 == 0, func(w *writer) {
			for range 1 + d.below(3) {
				w.decl(d.decl(1 + len(all)%5))
			}
		})
		if len(s) < 400 {
			all = append(all, s)
		}
	}
	return all
}

// TestP121Spoilt holds right texts in which a token or two are changed, left out, put in or put elsewhere.
func TestP121Spoilt(t *testing.T) {
	g, d := newGrammar(), &dice{7}
	for _, s := range sownTexts(1500) {
		l, _ := lex.Tokens(s)
		for range 4 {
			spoilt := slices.Clone(l)
			for range 1 + d.below(2) {
				i, j := d.below(len(spoilt)), d.below(len(spoilt))
				other, _ := lex.Tokens(d.pick(anyToken()...))
				switch d.below(4) {
				case 0:
					spoilt[i] = other[0]
				case 1:
					spoilt = slices.Insert(spoilt, i, other[0])
				case 2:
					spoilt = append(slices.Delete(spoilt, i, i+1), other...)
				case 3:
					spoilt[i], spoilt[j] = spoilt[j], spoilt[i]
				}
			}
			text, _ := lex.Write(spoilt)
			if !g.asModel(text) {
				t.Fatalf("%q", text)
			}
		}
	}
}

// TestP121Walks goes on at random with tokens with which the model lets a text go on, and looks at each on the way.
func TestP121Walks(t *testing.T) {
	g, d := newGrammar(), &dice{11}
	for i := range 900 {
		start := []string{"<text>", "<e>", "<t>"}[i%3]
		now := g.opened(g.push(nil, start))
		s := ""
		for range 40 {
			next := now[d.below(len(now))]
			if next == nil {
				continue
			}
			word := next.top
			switch word {
			case "NAME":
				word = d.name()
			case "CON":
				word = d.con()
			case "INT":
				word = d.pick("0", "1", "2")
			case "STR":
				word = quoted(d.str())
			case "PRIM":
				word = d.pick(lex.Prims()...)
			}
			s += word + " "
			l, _ := lex.Tokens(word)
			now = g.step(now, l[0])
			if !g.asModel(s) {
				t.Fatalf("%q", s)
			}
		}
	}
}

// short tells of each text of a few tokens with which a right one may go on whether what is told of it, and of all with one token more, is so.
func short(g *grammar, start string, most int, told func(s input) bool) (string, bool) {
	words := []string{"let", "rec", "in", "case", "of", "data", "x", "C", "0", "1", `"s"`, "len", `\`, "->", "-1>", "-?>", "-*>", "=", "==", ";", "{", "}", "(", ")", "|", "<", "++", "+", "*", "_", "?"}
	var all [][]api.Token
	for _, w := range words {
		l, _ := lex.Tokens(w)
		all = append(all, l)
	}
	var walk func(s string, now []*stack, room int) (string, bool)
	walk = func(s string, now []*stack, room int) (string, bool) {
		if !told(inputOf(s)) {
			return s, false
		}
		if len(now) == 0 || room == 0 {
			return "", true
		}
		for i, w := range words {
			if s, ok := walk(s+w+" ", g.step(now, all[i][0]), room-1); !ok {
				return s, false
			}
		}
		return "", true
	}
	return walk("", g.opened(g.push(nil, start)), most)
}

func TestP121Short(t *testing.T) {
	g := newGrammar()
	for _, x := range []struct {
		start string
		most  int
		told  func(s input) bool
	}{{"<text>", 7, g.asParse}, {"<e>", 5, g.asExpr}, {"<t>", 6, g.asType}} {
		if s, ok := short(g, x.start, x.most, x.told); !ok {
			t.Fatalf("%q", s)
		}
	}
}

// There and back: trees that are written are read as the same, and what is read is written and read again as the same.
func TestP123ThereAndBack(t *testing.T) {
	d := &dice{13}
	for i := range 4000 {
		l := someOf(d, 3, func() api.Decl { return d.decl(1 + i%7) })
		s, e := show.Text(l)
		if e == api.ErrLong {
			continue
		}
		got, diag := Parse(s)
		if e != api.OK || diag != (api.Diag{}) || !show.Same(got, l) {
			t.Fatalf("%q: %d %v", s, e, diag)
		}
		x := d.expr(1 + i%7)
		if s, e = show.TextExpr(x); e == api.OK {
			got, diag := Expr(s)
			if diag != (api.Diag{}) || !show.SameExpr(got, x) {
				t.Fatalf("%q: %v", s, diag)
			}
		}
	}
}

func TestP123OfTexts(t *testing.T) {
	for _, s := range append(sownTexts(1500), rowTexts()...) {
		l, d := Parse(s)
		if d.E == api.OK {
			w, e := show.Text(l)
			again, d := Parse(w)
			if e != api.OK || d.E != api.OK || !show.Same(l, again) {
				t.Fatalf("%q is %q", s, w)
			}
		}
		x, d := Expr(s)
		if d.E == api.OK {
			w, e := show.TextExpr(x)
			again, d := Expr(w)
			if e != api.OK || d.E != api.OK || !show.SameExpr(x, again) {
				t.Fatalf("%q is %q", s, w)
			}
		}
	}
}

// As deep as may be, in each way: what is written is read.
func TestP123MaxDepth(t *testing.T) {
	for _, x := range nests() {
		n := 59 / x.by
		l, d := Parse("let f=" + strings.Repeat(x.open, n) + x.in + strings.Repeat(x.shut, n))
		s, e := show.Text(l)
		again, d2 := Parse(s)
		if d.E != api.OK || e != api.OK || d2.E != api.OK || !show.Same(l, again) {
			t.Errorf("%q", x.open)
		}
	}
}

// Brackets around an expression, or a type, or around what stands in one, make no difference but in places.
func TestP124Brackets(t *testing.T) {
	_, exprs, types := rows()
	for _, s := range append(exprs, types...) {
		for n := range 4 {
			open, shut := strings.Repeat("(", n), strings.Repeat(")", n)
			if x, d := Expr(s[0]); d.E == api.OK {
				isExpr(t, open+s[0]+shut, shifted(toldExpr(x), n))
				isExpr(t, "f"+open+"("+s[0]+")"+shut, "app@0{f@0 "+shifted(toldExpr(x), n+2)+"}")
				is(t, "let f="+open+s[0]+shut, "let f@4 = "+shifted(toldExpr(x), n+6))
				isExpr(t, `\x->`+open+s[0]+shut, "lam x@1{"+shifted(toldExpr(x), n+4)+"}")
				isExpr(t, "let x="+open+s[0]+shut+" in a", "let x@0{"+shifted(toldExpr(x), n+6)+" a@"+num(len(s[0])+2*n+10)+"}")
				isExpr(t, "case "+open+s[0]+shut+" of{_->a}", "case@0{"+shifted(toldExpr(x), n+5)+"}{_@"+num(len(s[0])+2*n+9)+" -> a@"+num(len(s[0])+2*n+12)+"}")
				isExpr(t, "case a of{_->"+open+s[0]+shut+"}", "case@0{a@5}{_@10 -> "+shifted(toldExpr(x), n+13)+"}")
			}
			if x, d := Type(s[0]); d.E == api.OK {
				isType(t, open+s[0]+shut, shifted(toldTy(x), n))
				isType(t, "A("+open+s[0]+shut+")", "A@0{"+shifted(toldTy(x), n+2)+"}")
				isType(t, "a-1>"+open+s[0]+shut, "-1>@1{a@0 "+shifted(toldTy(x), n+4)+"}")
			}
		}
	}
	d := &dice{17}
	for range 2000 {
		x, y := d.expr(5), d.ty(5)
		for more := range 3 {
			s := written(d, more, false, func(w *writer) { w.expr(x, asOne) })
			if got, diag := Expr(s); len(s) <= api.MaxText && (diag != (api.Diag{}) || !show.SameExpr(got, x)) {
				t.Fatalf("%q: %v", s, diag)
			}
			s = written(d, more, false, func(w *writer) { w.ty(y, 0) })
			if got, diag := Type(s); len(s) <= api.MaxText && (diag != (api.Diag{}) || !sameTy(got, y)) {
				t.Fatalf("%q: %v", s, diag)
			}
		}
	}
}

// Where a constructor stands, or takes what stands behind it, brackets do make a difference.
func TestP124BracketsOfConstructors(t *testing.T) {
	isExpr(t, "A a b", "A@0{a@2 b@4}")
	isExpr(t, "(A) a b", "app@1{app@1{A@1 a@4} b@6}")
	isExpr(t, "(A a) b", "app@1{A@1{a@3} b@6}")
	isExpr(t, "A (a b)", "A@0{app@3{a@3 b@5}}")
	isExpr(t, "A (B a) B", "A@0{B@3{a@5} B@8}")
	isExpr(t, "f A B", "app@0{app@0{f@0 A@2} B@4}")
	isExpr(t, "f A a", "app@0{app@0{f@0 A@2} a@4}")
	isExpr(t, "A * B a", "prim *@2{A@0 B@4{a@6}}")
	isExpr(t, "len a b", "prim len@0{a@4 b@6}")
	isExpr(t, "(len a) b", "app@1{prim len@1{a@5} b@8}")
	isExpr(t, "len (len) A", "prim len@0{prim len@5 A@10}")
	isExpr(t, "a - (b - c)", "prim -@2{a@0 prim -@7{b@5 c@9}}")
	isExpr(t, "(a < b) == (c < d)", "prim ==@8{prim <@3{a@1 b@5} prim <@14{c@12 d@16}}")
	isExpr(t, "a + b < c * d ++ e", "prim <@6{prim +@2{a@0 b@4} prim ++@14{prim *@10{c@8 d@12} e@17}}")
	isExpr(t, "f a * g b % A c - len d", "prim -@16{prim %@10{prim *@4{app@0{f@0 a@2} app@6{g@6 b@8}} A@12{c@14}} prim len@18{d@22}}")
	isType(t, "A B", "A@0{B@2}")
	isType(t, "A (B) (C a)", "A@0{B@3 C@7{a@9}}")
	isType(t, "(A) -1> (B b)", "-1>@4{A@1 B@9{b@11}}")
	isType(t, "(a -1> b) -1> c", "-1>@10{-1>@3{a@1 b@7} c@14}")
	is(t, "data T = A 1 B 1 (C) 1 (D d)", "data T@5 {A@9{1 B@13 1 C@18 1 D@24{d@26}}}")
}

func num(n int) string { return at(api.Pos{At: n})[1:] }

// A right text that is cut behind a token is right, or ends too early.
func TestP125Cut(t *testing.T) {
	for _, s := range append(sownTexts(300), rowTexts()...) {
		l, _ := lex.Tokens(s)
		_, whole := Parse(s)
		_, wholeExpr := Expr(s)
		_, wholeTy := Type(s)
		for i := range l {
			cut := s[:l[i].At.At]
			for _, cut := range []string{cut, strings.TrimRight(cut, " \t\r\n")} {
				if _, d := Parse(cut); whole.E == api.OK && d != (api.Diag{}) && d != (api.Diag{E: api.ErrSyntax, At: end(cut)}) {
					t.Fatalf("%q %v", cut, d)
				}
				if _, d := Expr(cut); wholeExpr.E == api.OK && d != (api.Diag{}) && d != (api.Diag{E: api.ErrSyntax, At: end(cut)}) {
					t.Fatalf("%q %v", cut, d)
				}
				if _, d := Type(cut); wholeTy.E == api.OK && d != (api.Diag{}) && d != (api.Diag{E: api.ErrSyntax, At: end(cut)}) {
					t.Fatalf("%q %v", cut, d)
				}
			}
		}
	}
}

// lists is where each list of what v has begins and ends, with all that it has room for.
func lists(v reflect.Value) [][2]uintptr {
	var all [][2]uintptr
	switch v.Kind() {
	case reflect.Struct:
		for i := range v.NumField() {
			all = append(all, lists(v.Field(i))...)
		}
	case reflect.Slice:
		if v.Cap() > 0 {
			all = append(all, [2]uintptr{v.Pointer(), v.Pointer() + uintptr(v.Cap())*v.Type().Elem().Size()})
		}
		for i := range v.Len() {
			all = append(all, lists(v.Index(i))...)
		}
	}
	return all
}

func apart(all [][2]uintptr) bool {
	slices.SortFunc(all, func(a, b [2]uintptr) int { return int(a[0]) - int(b[0]) })
	for i := 1; i < len(all); i++ {
		if all[i][0] < all[i-1][1] {
			return false
		}
	}
	return true
}

// No two lists of an answer, and none of two answers, share memory.
func TestP121NewMemory(t *testing.T) {
	for _, s := range append(sownTexts(300), rowTexts()...) {
		a, _ := Parse(s)
		b, _ := Parse(s)
		x, _ := Expr(s)
		y, _ := Type(s)
		if !reflect.DeepEqual(a, b) || !apart(slices.Concat(lists(reflect.ValueOf(a)), lists(reflect.ValueOf(b)), lists(reflect.ValueOf(x)), lists(reflect.ValueOf(y)))) {
			t.Fatalf("%q", s)
		}
	}
}
