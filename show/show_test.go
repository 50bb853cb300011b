package show

import (
	"reflect"
	"runtime/debug"
	"slices"
	"sort"
	"strings"
	"testing"

	"usufruct/api"
	"usufruct/lex"
)

// written says whether x is written as s.
func written(x api.Expr, s string) bool {
	got, e := TextExpr(x)
	return got == s && e == api.OK
}

// refusedExpr says whether TextExpr tells of x the error e, and nothing beside it.
func refusedExpr(x api.Expr, e api.Errno) bool {
	s, got := TextExpr(x)
	return s == "" && got == e && refused(e, dlet("f", x)) && refused(e, dlet("f", nm("a")), drec("f", x))
}

// refused says whether Text tells of l the error e, and nothing beside it.
func refused(e api.Errno, l ...api.Decl) bool {
	s, got := Text(l)
	return s == "" && got == e
}

// inType is a data type with a field of that type.
func inType(t api.Ty) api.Decl {
	return ddata("T", nil, cdecl("A"), cdecl("B", field(3, tn("a")), field(1, t)))
}

func TestP113Examples(t *testing.T) {
	sum := prim("+", app(nm("f"), app(nm("g"), nm("x"))), num(1))
	if !written(sum, "( f ( g x ) ) + 1") || Depth(dlet("f", sum)) != 4 {
		t.Error("f (g x) + 1")
	}
	list := lam("x", made("Cons", nm("x"), made("Nil")))
	if !written(list, `\ x -> Cons x Nil`) || Depth(dlet("f", list)) != 3 {
		t.Error(`\ x -> Cons x Nil`)
	}
	if !written(app(made("A"), nm("x")), "( A ) x") || !written(made("A", nm("x")), "A x") {
		t.Error("A x")
	}
	d := ddata("T", []string{"a"}, cdecl("A", field(1, tc("List", tn("a"))), field(2, tn("a"))))
	if s, e := Text([]api.Decl{d}); s != "data T a = A 1 ( List a ) ? a" || e != 0 || Depth(d) != 2 {
		t.Error("data T a = A 1 (List a) ? a", s, e)
	}
	for i, x := range []api.Expr{
		{Kind: api.ExApp, L: []api.Expr{nm("a")}}, nm("let"), {Kind: api.ExCase, L: []api.Expr{nm("a")}},
	} {
		if !refusedExpr(x, api.ErrArg) {
			t.Error(i)
		}
	}
}

// Each row of the table of what is written, alone and one behind the other.
func TestP113Rows(t *testing.T) {
	e, k := nm("e"), num(0)
	for _, x := range []struct {
		x api.Expr
		s string
	}{
		{nm("x"), "x"}, {num(0), "0"}, {num(api.MaxInt), "1099511627776"}, {str("a\n\t\"\\b"), `"a\n\t\"\\b"`}, {str(""), `""`}, {str("\r\x00\u20ac"), "\"\r\x00\u20ac\""},
		{lam("x", e), `\ x -> e`}, {let("x", e, k), "let x = e in 0"}, {rec("x", e, k), "let rec x = e in 0"},
		{cased(e, arm(pany(), k)), "case e of { _ -> 0 }"},
		{cased(e, arm(pn("x"), nm("x")), arm(pnum(3), k), arm(pstr("\t"), e), arm(pcon("A"), e), arm(pcon("A", pany(), pcon("B"), pcon("C", pn("y"))), e)), `case e of { x -> x ; 3 -> 0 ; "\t" -> e ; A -> e ; A _ B ( C y ) -> e }`},
		{app(e, k), "e 0"}, {app(app(e, k), e), "( e 0 ) e"}, {app(e, app(k, e)), "e ( 0 e )"},
		{made("A"), "A"}, {made("A", e, k, made("B"), made("B", e)), "A e 0 B ( B e )"},
		{prim("open"), "open"}, {prim("open", e, k), "open e 0"}, {prim("len", str("a")), `len "a"`}, {prim("len", prim("open")), "len ( open )"},
		{prim("<", e, k), "e < 0"}, {prim("==", e, k), "e == 0"}, {prim("++", e, k), "e ++ 0"}, {prim("+", e, k), "e + 0"}, {prim("-", e, k), "e - 0"}, {prim("*", e, k), "e * 0"}, {prim("/", e, k), "e / 0"}, {prim("%", e, k), "e % 0"},
		{prim("-", prim("-", e, k), e), "( e - 0 ) - e"}, {prim("*", made("A"), made("A", e)), "A * ( A e )"},
		{lam("x", lam("y", let("z", lam("x", e), cased(lam("x", e), arm(pany(), lam("x", e)))))), `\ x -> \ y -> let z = \ x -> e in case \ x -> e of { _ -> \ x -> e }`},
	} {
		if s, _ := TextExpr(x.x); !written(x.x, x.s) {
			t.Errorf("%q, not %q", s, x.s)
		}
		if s, e := Text([]api.Decl{dlet("f", x.x), drec("g'", x.x)}); s != "let f = "+x.s+" let rec g' = "+x.s || e != 0 {
			t.Errorf("%q", s)
		}
	}
	for _, x := range []struct {
		t api.Ty
		s string
	}{
		{tn("a"), "a"}, {tc("List"), "List"}, {tc("T", tn("a"), tc("U"), tc("V", tn("b"))), "( T a U ( V b ) )"},
		{tf(tn("a"), 1, tn("b")), "( a -1> b )"}, {tf(tn("a"), 2, tc("B")), "( a -?> B )"}, {tf(tc("A"), 3, tn("b")), "( A -*> b )"},
		{tf(tf(tn("a"), 1, tn("b")), 2, tf(tn("a"), 3, tn("b"))), "( ( a -1> b ) -?> ( a -*> b ) )"}, {tf(tc("A", tn("a")), 1, tc("B", tf(tn("a"), 1, tn("b")))), "( ( A a ) -1> ( B ( a -1> b ) ) )"},
	} {
		for m, often := range []string{"1", "?", "*"} {
			d := ddata("T", []string{"a", "b"}, cdecl("A"), cdecl("B", field(api.Mult(m+1), x.t), field(1, x.t)), cdecl("C"))
			if s, e := Text([]api.Decl{d, d}); s != "data T a b = A | B "+often+" "+x.s+" 1 "+x.s+" | C data T a b = A | B "+often+" "+x.s+" 1 "+x.s+" | C" || e != 0 {
				t.Errorf("%q", s)
			}
		}
	}
	if s, e := Text([]api.Decl{ddata("T", nil, cdecl("A"))}); s != "data T = A" || e != 0 {
		t.Errorf("%q", s)
	}
	for _, l := range [][]api.Decl{nil, {}} {
		if s, e := Text(l); s != "" || e != 0 {
			t.Errorf("%q", s)
		}
	}
}

// kinds is an expression of each kind, with kids and without.
func kinds() []api.Expr {
	a, b := nm("a"), nm("b")
	l := []api.Expr{a, num(1), str("s"), lam("x", a), app(a, b), let("x", a, b), rec("x", a, b), cased(a, arm(pany(), b)), made("A"), made("A", a), prim("open"), prim("open", a), made("A", a, b), prim("open", a, b)}
	for _, s := range strings.Fields(opList) {
		l = append(l, prim(s, a, b))
	}
	return l
}

// Each kind at each place where a kid may stand.
func TestP113Brackets(t *testing.T) {
	b := nm("b")
	for _, k := range kinds() {
		own, _ := TextExpr(k)
		in := "( " + own + " )"
		if !strings.Contains(own, " ") && own != "open" {
			in = own
		}
		first := in
		if k.Kind == api.ExCon {
			first = "( " + own + " )"
		}
		for _, x := range []struct {
			x api.Expr
			s string
		}{
			{lam("x", k), `\ x -> ` + own}, {let("x", k, b), "let x = " + own + " in b"}, {let("x", b, k), "let x = b in " + own}, {rec("x", k, b), "let rec x = " + own + " in b"}, {rec("x", b, k), "let rec x = b in " + own},
			{cased(k, arm(pany(), b)), "case " + own + " of { _ -> b }"}, {cased(b, arm(pany(), k), arm(pany(), k)), "case b of { _ -> " + own + " ; _ -> " + own + " }"},
			{app(k, b), first + " b"}, {app(b, k), "b " + in}, {app(k, k), first + " " + in},
			{made("B", k), "B " + in}, {made("B", b, k, k), "B b " + in + " " + in}, {prim("set", k), "set " + in}, {prim("set", k, b, k), "set " + in + " b " + in},
		} {
			if s, _ := TextExpr(x.x); !written(x.x, x.s) {
				t.Errorf("%q, not %q", s, x.s)
			}
		}
		for _, op := range strings.Fields(opList) {
			if !written(prim(op, k, b), in+" "+op+" b") || !written(prim(op, b, k), "b "+op+" "+in) || !written(prim(op, k, k), in+" "+op+" "+in) {
				t.Errorf("%q at the sides of %q", own, op)
			}
		}
	}
}

func TestP113BracketsOfPatternsAndTypes(t *testing.T) {
	for _, k := range []struct {
		p api.Pat
		s string
	}{
		{pn("a"), "a"}, {pany(), "_"}, {pnum(1), "1"}, {pstr("s"), `"s"`}, {pcon("A"), "A"}, {pcon("A", pany()), "( A _ )"}, {pcon("A", pcon("A")), "( A A )"},
	} {
		alone := strings.TrimSuffix(strings.TrimPrefix(k.s, "( "), " )")
		if !written(cased(nm("e"), arm(k.p, num(1))), "case e of { "+alone+" -> 1 }") {
			t.Errorf("%q", k.s)
		}
		if !written(cased(nm("e"), arm(pcon("B", k.p, pn("x"), k.p), num(1))), "case e of { B "+k.s+" x "+k.s+" -> 1 }") {
			t.Errorf("%q", k.s)
		}
	}
	for _, k := range []struct {
		t api.Ty
		s string
	}{
		{tn("a"), "a"}, {tc("A"), "A"}, {tc("A", tn("a")), "( A a )"}, {tf(tn("a"), 3, tn("b")), "( a -*> b )"},
	} {
		d := ddata("T", nil, cdecl("A", field(1, k.t), field(2, tc("B", k.t, tn("a"), k.t)), field(3, tf(k.t, 1, tn("a"))), field(1, tf(tn("a"), 2, k.t))))
		if s, e := Text([]api.Decl{d}); e != 0 || s != "data T = A 1 "+k.s+" ? ( B "+k.s+" a "+k.s+" ) * ( "+k.s+" -1> a ) 1 ( a -?> "+k.s+" )" {
			t.Errorf("%q", s)
		}
	}
}

// Each field of an expression being each of what it may be, or not, one by one and two by two.
func TestP113WhatMayBe(t *testing.T) {
	a := nm("a")
	texts := append(strings.Fields(taken+opList+" -> -1> -?> -*> = ; { } ( ) | _ ? \\ a A a' A' a_ 1 01 0 ab Ab -- a- a! \" \"a\" + === opens lets"), "", " ", " a", "a ", "a b", "a\n", "A\n", "open ", " +", "+ ", "a--b", "--\na",
		strings.Repeat("a", 24), strings.Repeat("a", 25), strings.Repeat("A", 24), strings.Repeat("A", 25), "\xff", "\u00e4", "\u00c4", "a\u00e4", strings.Repeat("a", 4001))
	numbers := []int64{0, 1, -1, api.MaxInt, api.MaxInt + 1, -1 << 63, 1<<63 - 1}
	lists := [][]api.Expr{nil, {}, {a}, {a, a}, {a, a, a}, {{}}, {a, {}}, {{}, a}}
	arms := [][]api.Arm{nil, {}, {arm(pany(), a)}, {arm(pany(), a), arm(pany(), a)}, {{}}, {arm(api.Pat{}, a)}, {arm(pany(), api.Expr{})}, {arm(pany(), a), {}}}
	for kind := range 13 {
		for _, s := range texts {
			for _, n := range numbers {
				for i, l := range lists {
					if n != 0 && n != 1 && i > 3 {
						continue
					}
					for j, as := range arms {
						if (n != 0 || i > 3) && j > 2 {
							continue
						}
						x := api.Expr{Kind: uint8(kind), S: s, N: n, L: l, Arms: as}
						got, e := TextExpr(x)
						if want, wantErr := modelExpr(x); got != want || e != wantErr {
							t.Fatalf("%+v: %q %v", x, got, e)
						}
					}
				}
			}
		}
	}
	for _, kind := range []uint8{0, 11, 12, 13, 20, 127, 128, 254, 255} {
		if !refusedExpr(api.Expr{Kind: kind}, 2) || !refusedExpr(api.Expr{Kind: kind, S: "a"}, 2) {
			t.Error(kind)
		}
	}
}

func TestP113WhatMayBeOfPatterns(t *testing.T) {
	texts := append(strings.Fields(taken+"_ a A a' 1 + ?"), "", "a b", "a\n", "A ", strings.Repeat("a", 25), strings.Repeat("A", 25), "\xff", "\u00e4", strings.Repeat("A", 24))
	for kind := range 256 {
		for _, s := range texts {
			for _, n := range []int64{0, 1, -1, api.MaxInt, api.MaxInt + 1} {
				for _, l := range [][]api.Pat{nil, {}, {pany()}, {pn("a"), pcon("A", pany())}, {{}}, {pany(), {}}} {
					if kind > 6 && kind < 255 && (n != 0 || len(l) > 1) {
						continue
					}
					p := api.Pat{Kind: uint8(kind), S: s, N: n, L: l}
					for _, x := range []api.Expr{cased(nm("e"), arm(p, num(1))), cased(nm("e"), arm(pany(), num(1)), arm(pcon("A", pany(), p), num(1)))} {
						got, e := TextExpr(x)
						if want, wantErr := modelExpr(x); got != want || e != wantErr {
							t.Fatalf("%+v: %q %v", p, got, e)
						}
					}
				}
			}
		}
	}
}

func TestP113WhatMayBeOfTypes(t *testing.T) {
	kindList := []int{0, 1, 2, 3, 4, 5, 127, 128, 254, 255}
	texts := append(strings.Fields(taken+"_ a A a' 1 + ?"), "", "a b", "a\n", "A ", strings.Repeat("a", 25), strings.Repeat("A", 25), "\xff", "\u00e4", strings.Repeat("A", 24))
	for _, kind := range kindList {
		for _, s := range texts {
			for _, m := range []api.Mult{0, 1, 2, 3, 4, 255} {
				for _, l := range [][]api.Ty{nil, {}, {tn("a")}, {tn("a"), tc("A", tn("b"))}, {tn("a"), tn("a"), tn("a")}, {{}}, {tn("a"), {}}, {{}, tn("a")}} {
					if kind > 5 && (m > 1 || len(l) > 1) {
						continue
					}
					x := api.Ty{Kind: uint8(kind), S: s, M: m, L: l}
					for _, y := range []api.Ty{x, tc("A", tn("a"), x), tf(x, 1, tn("a")), tf(tn("a"), 1, x)} {
						if !asModel(inType(y)) {
							t.Fatalf("%+v", y)
						}
					}
				}
			}
		}
	}
}

// Declarations of which one field is another one.
func TestP113WhatMayBeOfDeclarations(t *testing.T) {
	names := append(strings.Fields(taken+"_ a A a' 1 + ?"), "", "a b", "a\n", "A ", strings.Repeat("a", 24), strings.Repeat("A", 24), strings.Repeat("a", 25), strings.Repeat("A", 25), "\xff")
	var l []api.Decl
	for _, good := range []api.Decl{
		ddata("T", nil, cdecl("A")), ddata("T", []string{"a", "a"}, cdecl("A"), cdecl("A", field(1, tn("a")), field(3, tn("b")))), dlet("f", nm("x")), drec("f", nm("x")),
	} {
		change := func(do func(d *api.Decl)) {
			d := (&places{}).decl(good) // its lists are its own
			d.E.At = api.Pos{}
			do(&d)
			l = append(l, d)
		}
		change(func(*api.Decl) {})
		for kind := range 256 {
			change(func(d *api.Decl) { d.Kind = uint8(kind) })
		}
		for _, s := range names {
			change(func(d *api.Decl) { d.Name = s })
			change(func(d *api.Decl) { d.Params = append(d.Params, s) })
			change(func(d *api.Decl) { d.Params = append([]string{s}, d.Params...) })
			change(func(d *api.Decl) { d.E.S = s })
			change(func(d *api.Decl) { d.Cons = append(d.Cons, cdecl(s)) })
			if good.Kind == api.DcData {
				change(func(d *api.Decl) { d.Cons[0].Name = s })
				change(func(d *api.Decl) { d.Cons[len(d.Cons)-1].Name = s })
			}
		}
		for _, at := range []api.Pos{{At: 1}, {Line: 1}, {Col: 1}} {
			change(func(d *api.Decl) { d.At = at })
			change(func(d *api.Decl) { d.E.At = at })
			change(func(d *api.Decl) { d.Cons = append(d.Cons, api.ConDecl{At: at, Name: "A"}) })
			change(func(d *api.Decl) { d.Cons = append(d.Cons, api.ConDecl{At: at}) })
		}
		for m := range 256 {
			change(func(d *api.Decl) { d.Cons = append(d.Cons, cdecl("A", field(api.Mult(m), tn("a")))) })
			change(func(d *api.Decl) { d.Cons = append(d.Cons, cdecl("A", field(1, tn("a")), field(api.Mult(m), tn("a")))) })
		}
		change(func(d *api.Decl) { d.Rec = !d.Rec })
		change(func(d *api.Decl) { d.Cons = nil })
		change(func(d *api.Decl) { d.Cons = []api.ConDecl{} })
		change(func(d *api.Decl) { d.Params = nil })
		change(func(d *api.Decl) { d.Cons = append(d.Cons, cdecl("A", api.Field{})) })
		change(func(d *api.Decl) { d.E = api.Expr{} })
		change(func(d *api.Decl) { d.E = api.Expr{L: []api.Expr{}, Arms: []api.Arm{}} })
		change(func(d *api.Decl) { d.E = api.Expr{L: []api.Expr{{}}} })
		change(func(d *api.Decl) { d.E = api.Expr{Arms: []api.Arm{{}}} })
		change(func(d *api.Decl) { d.E = api.Expr{N: 1} })
		change(func(d *api.Decl) { d.E = api.Expr{Kind: 1} })
		change(func(d *api.Decl) { d.E = num(1) })
	}
	fine, wrong := 0, 0
	ahead, behind := dlet("a", nm("b")), ddata("B", nil, cdecl("C"))
	for _, d := range l {
		if !asModel(d) || !asModel(ahead, d) || !asModel(d, behind) || !asModel(ahead, d, behind, d) {
			t.Fatalf("%+v", d)
		}
		if goodDecl(d) {
			fine++
		} else {
			wrong++
		}
	}
	if fine < 50 || wrong < 500 {
		t.Error(fine, wrong)
	}
}

// Where a number that is no multiplicity, a place, or an empty list stands makes a difference only if the chapter says so.
func TestP113PlacesAndEmptyLists(t *testing.T) {
	d := &sower{}
	p := &places{}
	for range 2000 {
		x := d.decl(4)
		want, wantErr := Text([]api.Decl{x})
		y := p.decl(x)
		if s, e := Text([]api.Decl{y}); s != want || e != wantErr || Depth(y) != Depth(x) || !Same([]api.Decl{x}, []api.Decl{y}) || !SameExpr(x.E, y.E) {
			t.Fatalf("%+v", x)
		}
		if want, wantErr = TextExpr(x.E); x.Kind != api.DcLet {
			continue
		}
		if s, e := TextExpr(y.E); s != want || e != wantErr || e == api.ErrArg {
			t.Fatalf("%+v", x)
		}
	}
}

func TestP113Sown(t *testing.T) {
	counts := map[api.Errno]int{}
	for _, rarely := range []int{0, 20, 60, 200, 1000} {
		d := &sower{rarely: rarely}
		for range 1500 {
			n := 1 + d.below(6)
			if x := d.expr(n); !asModelExpr(x) {
				t.Fatalf("%+v", x)
			}
			l := make([]api.Decl, d.below(4))
			if d.below(50) == 0 {
				l = make([]api.Decl, 10+d.below(100))
			}
			for i := range l {
				l[i] = d.decl(n - d.below(n))
			}
			if !asModel(l...) {
				t.Fatalf("%+v", l)
			}
			_, e := Text(l)
			counts[e]++
		}
	}
	if counts[api.OK] < 500 || counts[api.ErrArg] < 500 || counts[api.ErrLong] < 5 {
		t.Error(counts)
	}
}

// nested is a tree in which others stand as deep as n says, in each of the ways in which they may.
func nested(n int) []api.Expr {
	a := nm("a")
	var l []api.Expr
	for _, around := range []func(x api.Expr) api.Expr{
		func(x api.Expr) api.Expr { return lam("x", x) },
		func(x api.Expr) api.Expr { return app(x, a) },
		func(x api.Expr) api.Expr { return app(a, x) },
		func(x api.Expr) api.Expr { return let("x", x, a) },
		func(x api.Expr) api.Expr { return let("x", a, x) },
		func(x api.Expr) api.Expr { return rec("x", x, a) },
		func(x api.Expr) api.Expr { return rec("x", a, x) },
		func(x api.Expr) api.Expr { return cased(x, arm(pany(), a)) },
		func(x api.Expr) api.Expr { return cased(a, arm(pany(), x)) },
		func(x api.Expr) api.Expr { return cased(a, arm(pany(), a), arm(pany(), x), arm(pany(), a)) },
		func(x api.Expr) api.Expr { return made("A", x) },
		func(x api.Expr) api.Expr { return made("A", a, x, a) },
		func(x api.Expr) api.Expr { return prim("get", a, x) },
		func(x api.Expr) api.Expr { return prim("+", x, a) },
		func(x api.Expr) api.Expr { return prim("+", a, x) },
	} {
		x := a
		for range n - 1 {
			x = around(x)
		}
		l = append(l, x)
		if n > 1 {
			p := pany()
			for range n - 2 {
				p = pcon("A", pany(), p)
			}
			l = append(l, cased(a, arm(p, a)), cased(a, arm(pany(), a), arm(p, a)))
		}
		p := pany()
		for range n / 2 {
			p = pcon("A", p)
		}
		x = cased(a, arm(p, a))
		for range n - n/2 - 2 {
			x = around(x)
		}
		if n > 3 {
			l = append(l, x)
		}
	}
	return l
}

func TestP113MaxDepth(t *testing.T) {
	for _, n := range []int{1, 2, 3, 4, 5, 29, 30, 31, 57, 58, 59, 60, 61, 62, 63, 64, 69, 120} {
		for _, x := range nested(n) {
			if deepExpr(x) != n {
				t.Fatal(n)
			}
			if !asModelExpr(x) || !asModel(dlet("a", nm("b")), drec("f", x)) {
				t.Errorf("%d %+v", n, x)
			}
			if _, e := TextExpr(x); (e == api.ErrArg) != (n > 60) {
				t.Error(n, e)
			}
		}
		for _, around := range []func(x api.Ty) api.Ty{
			func(x api.Ty) api.Ty { return tc("A", x) },
			func(x api.Ty) api.Ty { return tc("A", tn("a"), x, tn("a")) },
			func(x api.Ty) api.Ty { return tf(x, 1, tn("a")) },
			func(x api.Ty) api.Ty { return tf(tn("a"), 1, x) },
		} {
			x := tn("a")
			for range n - 1 {
				x = around(x)
			}
			d := inType(x)
			if deepTy(x) != n || !asModel(d) || !asModel(dlet("a", nm("b")), d) {
				t.Errorf("%d %+v", n, x)
			}
			if _, e := Text([]api.Decl{d}); (e == api.ErrArg) != (n > 60) {
				t.Error(n, e)
			}
		}
	}
}

// Writings of MaxText bytes, and of some less and more, each made long by another thing.
func TestP113MaxText(t *testing.T) {
	for _, make := range []func(n int) []api.Decl{
		func(n int) []api.Decl { return []api.Decl{dlet("f", str(strings.Repeat("a", n)))} },
		func(n int) []api.Decl { return []api.Decl{dlet("f", str("a"+strings.Repeat("\n", n/2)))} },
		func(n int) []api.Decl { return []api.Decl{dlet("f", str(strings.Repeat("\u20ac", n/3)))} },
		func(n int) []api.Decl {
			return []api.Decl{dlet("f", str(strings.Repeat("\"", n-2000)+strings.Repeat("\U0001d11e", 200)))}
		},
		func(n int) []api.Decl {
			return []api.Decl{dlet("f", made("A", slices.Repeat([]api.Expr{nm("x")}, n/2)...))}
		},
		func(n int) []api.Decl {
			return []api.Decl{dlet("f", made("Ab", slices.Repeat([]api.Expr{num(7)}, n/2)...))}
		},
		func(n int) []api.Decl {
			return []api.Decl{dlet("f", made("A", slices.Repeat([]api.Expr{made("A", nm("b"))}, n/8)...))}
		},
		func(n int) []api.Decl {
			return []api.Decl{dlet("f", cased(num(1), slices.Repeat([]api.Arm{arm(pany(), nm("b"))}, n/9)...))}
		},
		func(n int) []api.Decl {
			return []api.Decl{dlet("f", cased(num(1), arm(pcon("A", slices.Repeat([]api.Pat{pany()}, n/2)...), nm("b"))))}
		},
		func(n int) []api.Decl { return []api.Decl{ddata("T", slices.Repeat([]string{"a"}, n/2), cdecl("A"))} },
		func(n int) []api.Decl {
			return []api.Decl{ddata("T", nil, slices.Repeat([]api.ConDecl{cdecl("A")}, n/4)...)}
		},
		func(n int) []api.Decl {
			return []api.Decl{ddata("T", nil, cdecl("A", slices.Repeat([]api.Field{field(3, tn("a"))}, n/4)...))}
		},
		func(n int) []api.Decl {
			return []api.Decl{ddata("T", nil, cdecl("A", field(1, tc("T", slices.Repeat([]api.Ty{tn("a")}, n/2)...))))}
		},
		func(n int) []api.Decl { return slices.Repeat([]api.Decl{dlet("f", nm("a"))}, n/10) },
	} {
		n := 1999 + sort.Search(2000, func(n int) bool { return len(writeAll(make(2000+n))) > 3985 })
		l := append([]api.Decl{dlet("a", num(1))}, make(n)...)
		size := len(writeAll(l))
		for want := 3998; want < 4004; want++ {
			if want-size < 0 || want-size > 23 {
				t.Fatal(n, size)
			}
			l[0].Name = "a" + strings.Repeat("b", want-size)
			s, e := Text(l)
			if want <= 4000 && (e != 0 || s != writeAll(l)) || want > 4000 && (e != api.ErrLong || s != "") {
				t.Errorf("%d: %q %v", want, s, e)
			}
		}
	}
	for _, x := range []struct {
		n int
		e api.Errno
	}{{3998, 0}, {3999, api.ErrLong}, {4000, api.ErrLong}, {5000, api.ErrLong}, {1 << 20, api.ErrLong}} {
		if s, e := TextExpr(str(strings.Repeat("a", x.n))); e != x.e || e == 0 && len(s) != 4000 || e != 0 && s != "" {
			t.Error(x.n, e)
		}
	}
}

// writeAll is what the model writes for l, however long.
func writeAll(l []api.Decl) string {
	var out []string
	for _, d := range l {
		out = append(out, writeDecl(d))
	}
	return strings.Join(out, " ")
}

// What may not be goes ahead of what is too long, wherever the two stand.
func TestP113ErrArgAheadOfErrLong(t *testing.T) {
	long := str(strings.Repeat("a", 5000))
	wide := made("A", slices.Repeat([]api.Expr{nm("x")}, 9000)...)
	deep := nested(61)[0]
	for i, wrong := range []api.Expr{{}, nm("let"), nm(""), num(-1), str("\xff"), lam("A", nm("a")), app(nm("a"), num(api.MaxInt+1)), made("a"), prim("->", nm("a"), nm("b")), cased(nm("a")), cased(nm("a"), arm(pcon("b"), nm("a"))), deep} {
		for j, l := range []api.Expr{long, wide} {
			if !refusedExpr(l, api.ErrLong) || !refusedExpr(app(l, wrong), api.ErrArg) || !refusedExpr(app(wrong, l), api.ErrArg) || !refused(api.ErrArg, dlet("f", l), dlet("f", wrong)) || !refused(api.ErrArg, dlet("f", wrong), dlet("f", l)) {
				t.Error(i, j)
			}
			if !refused(api.ErrArg, dlet("f", l), dlet("", nm("a"))) || !refused(api.ErrArg, dlet("f", l), ddata("T", nil)) || !refused(api.ErrArg, dlet("f", l), api.Decl{}) || !refused(api.ErrArg, dlet("f", l), inType(tf(tn("a"), 0, tn("a")))) || !refused(api.ErrLong, dlet("f", l), inType(tn("a"))) {
				t.Error(i, j)
			}
		}
	}
	a := field(1, tn("a"))
	for i, wrong := range []api.Decl{
		dlet("f", api.Expr{}), dlet("f", cased(nm("a"), arm(api.Pat{}, nm("a")))), dlet("f", cased(nm("a"), arm(pcon("A", api.Pat{Kind: 6}), nm("a")))), dlet("f", cased(nm("a"), arm(api.Pat{Kind: api.PtAny, S: "_"}, nm("a")))), dlet("A", nm("a")),
		inType(api.Ty{}), inType(tc("A", api.Ty{Kind: 4})), inType(tn("of")), ddata("t", nil, cdecl("A", a)), ddata("T", nil, cdecl("a", a)), ddata("T", nil, cdecl("A", a), cdecl("A b", a)), ddata("T", []string{"A"}, cdecl("A", a)), ddata("T", []string{"a", ""}, cdecl("A", a)), {Kind: 3, Name: "a"},
	} {
		if !refused(api.ErrArg, dlet("f", wide), wrong) || !refused(api.ErrArg, wrong, dlet("f", wide)) || !refused(api.ErrArg, ddata("T", slices.Repeat([]string{"a"}, 9000), cdecl("A")), wrong) {
			t.Error(i)
		}
	}
	if !refused(api.ErrArg, inType(tc("T", append(slices.Repeat([]api.Ty{tn("a")}, 9000), tn("A"))...))) {
		t.Error("the last one of many types")
	}
}

func TestP112Depth(t *testing.T) {
	a, deep := nm("a"), nested(9)[0]
	ten := tc("A", tc("A", tc("A")))
	cons := []api.ConDecl{cdecl("A", field(1, tn("a"))), cdecl("B", field(0, tn("a")), field(1, ten), field(2, tn("a"))), cdecl("C")}
	for _, x := range []struct {
		d api.Decl
		n int
	}{
		{api.Decl{}, 0}, {api.Decl{Kind: 3, E: deep, Cons: cons}, 0}, {api.Decl{Kind: 255, E: deep, Cons: cons}, 0}, {api.Decl{E: deep, Cons: cons}, 0},
		{api.Decl{Kind: api.DcLet, E: deep, Cons: cons}, 9}, {api.Decl{Kind: api.DcData, E: deep, Cons: cons}, 3}, {api.Decl{Kind: api.DcLet, Cons: cons}, 1}, {api.Decl{Kind: api.DcData, E: deep}, 0},
		{ddata("", nil), 0}, {ddata("T", nil, cdecl("A"), cdecl("B")), 0}, {ddata("T", nil, cdecl("A"), cdecl("B", api.Field{})), 1},
		{dlet("", a), 1}, {dlet("", api.Expr{Kind: 77}), 1}, {dlet("", api.Expr{L: []api.Expr{{}}}), 2}, {dlet("", api.Expr{Arms: []api.Arm{{}}}), 2}, {dlet("", api.Expr{L: []api.Expr{}, Arms: []api.Arm{}}), 1},
		{dlet("", api.Expr{Kind: api.ExName, Arms: []api.Arm{arm(pany(), deep)}}), 10}, {dlet("", api.Expr{Kind: api.ExInt, L: []api.Expr{a, a, deep, a}}), 10},
		{dlet("", cased(a, arm(pcon("A", pcon("A", pany())), a))), 4}, {dlet("", cased(deep, arm(pcon("A", pcon("A", pany())), a))), 10}, {dlet("", cased(lam("x", a), arm(pany(), lam("x", a)))), 3},
		{dlet("", api.Expr{Arms: []api.Arm{arm(api.Pat{Kind: api.PtAny, L: []api.Pat{{L: []api.Pat{{}}}}}, a)}}), 4},
		{inType(api.Ty{Kind: api.TyName, L: []api.Ty{{L: []api.Ty{{}}}, {}}}), 3}, {inType(api.Ty{L: []api.Ty{}}), 1},
	} {
		if n := Depth(x.d); n != x.n || n != deepDecl(x.d) {
			t.Errorf("%+v: %d", x.d, n)
		}
	}
	for n := 1; n < 130; n++ {
		for _, x := range nested(n) {
			if Depth(dlet("f", x)) != n || Depth(drec("", x)) != n {
				t.Fatal(n)
			}
		}
	}
}

// changes is d with one field being another one, for each field that there is; of places none.
func changes(d api.Decl) []api.Decl {
	var l []api.Decl
	n := 0
	for {
		c := (&places{}).decl(d)
		k := &changer{left: n}
		k.walk(reflect.ValueOf(&c).Elem())
		if k.left >= 0 {
			return l
		}
		l = append(l, c)
		n++
	}
}

// changer changes the field that is left ones further on.
type changer struct{ left int }

func (k *changer) walk(v reflect.Value) {
	if v.Type() == reflect.TypeFor[api.Pos]() {
		return
	}
	switch v.Kind() {
	case reflect.Struct:
		for i := range v.NumField() {
			k.walk(v.Field(i))
		}
		return
	case reflect.Slice:
		for i := range v.Len() {
			k.walk(v.Index(i))
		}
	}
	k.left--
	if k.left != -1 {
		return
	}
	switch v.Kind() {
	case reflect.Uint8:
		v.SetUint(v.Uint() ^ 1)
	case reflect.Int64:
		v.SetInt(v.Int() + 1)
	case reflect.String:
		v.SetString(v.String() + "x")
	case reflect.Bool:
		v.SetBool(!v.Bool())
	case reflect.Slice:
		v.Set(reflect.Append(v, reflect.Zero(v.Type().Elem())))
	}
}

func TestP111EachField(t *testing.T) {
	full := api.Expr{Kind: 9, S: "s", N: 3, L: []api.Expr{nm("a"), {}}, Arms: []api.Arm{arm(pcon("A", pnum(1), pany()), num(1)), {}}}
	total := 0
	for _, d := range []api.Decl{
		{}, dlet("f", full), drec("f", let("x", nm("y"), cased(num(1), arm(pstr("a"), str("b")), arm(pcon("C", pn("x")), made("A", app(nm("f"), nm("x"))))))),
		{Kind: api.DcData, Name: "T", Params: []string{"a", "b"}, E: full, Rec: true, Cons: []api.ConDecl{cdecl("A", field(1, tf(tn("a"), 2, tc("L", tn("b"), tc("M")))), field(3, tn("a"))), cdecl("B"), {}}},
	} {
		l := changes(d)
		total += len(l)
		same := []api.Decl{d}
		for _, c := range l {
			other := []api.Decl{c}
			if Same(same, other) || Same(other, same) || !Same(other, other) || told(same) == told(other) {
				t.Errorf("%+v: %+v", d, c)
			}
			if toldExpr(d.E) != toldExpr(c.E) && (SameExpr(d.E, c.E) || SameExpr(c.E, d.E)) || toldExpr(d.E) == toldExpr(c.E) && (!SameExpr(d.E, c.E) || !SameExpr(c.E, d.E)) {
				t.Errorf("%+v: %+v", d.E, c.E)
			}
			if Same([]api.Decl{d, d}, []api.Decl{d, c}) || Same([]api.Decl{d, d}, []api.Decl{c, d}) || !Same([]api.Decl{c, d}, []api.Decl{c, d}) {
				t.Errorf("%+v: %+v", d, c)
			}
		}
		if !Same(same, []api.Decl{(&places{7}).decl(d)}) || Same(same, nil) || Same(nil, same) || Same(same, []api.Decl{d, d}) || Same([]api.Decl{d, d}, same) {
			t.Errorf("%+v", d)
		}
	}
	if total < 100 {
		t.Error(total)
	}
}

func TestP111Lists(t *testing.T) {
	if !Same(nil, nil) || !Same(nil, []api.Decl{}) || !Same([]api.Decl{}, nil) || Same(nil, []api.Decl{{}}) || Same([]api.Decl{{}}, nil) || Same([]api.Decl{{}, {}}, []api.Decl{{}}) {
		t.Error("lists of declarations")
	}
	a, b, c := nm("a"), nm("b"), nm("c")
	p, q := pn("a"), pcon("B", pany())
	for _, x := range [][2]api.Expr{
		{made("A", a, b), made("A", b, a)}, {made("A", a, b), made("A", a, b, c)}, {made("A", a, made("A", b)), made("A", made("A", a), b)}, {made("A", made("A", a), b), made("A", made("A"), a, b)},
		{cased(a, arm(p, b), arm(q, c)), cased(a, arm(q, c), arm(p, b))}, {cased(a, arm(p, b), arm(q, c)), cased(a, arm(q, b), arm(p, c))}, {cased(a, arm(p, b), arm(q, c)), cased(a, arm(p, c), arm(q, b))}, {cased(a, arm(p, b)), cased(b, arm(p, a))},
		{{L: []api.Expr{a, b}}, {L: []api.Expr{a}, Arms: []api.Arm{{E: b}}}}, {{L: []api.Expr{a}}, {Arms: []api.Arm{{E: a}}}}, {{Arms: []api.Arm{{}}}, {}}, {{L: []api.Expr{{}}}, {}}, {{L: []api.Expr{{}}}, {Arms: []api.Arm{{}}}},
		{{Arms: []api.Arm{{P: api.Pat{L: []api.Pat{{}}}}, {}}}, {Arms: []api.Arm{{}, {P: api.Pat{L: []api.Pat{{}}}}}}},
		{{Arms: []api.Arm{{P: api.Pat{L: []api.Pat{{}, {}}}}}}, {Arms: []api.Arm{{P: api.Pat{L: []api.Pat{{L: []api.Pat{{}}}}}}}}},
		{str("a"), nm("a")}, {str("a"), str("a ")}, {num(0), {}}, {let("x", a, b), rec("x", a, b)},
	} {
		if SameExpr(x[0], x[1]) || SameExpr(x[1], x[0]) || !SameExpr(x[0], x[0]) || !SameExpr(x[1], x[1]) {
			t.Errorf("%+v", x)
		}
		if Same([]api.Decl{dlet("f", x[0])}, []api.Decl{dlet("f", x[1])}) {
			t.Errorf("%+v", x)
		}
	}
	for _, x := range [][2]api.Ty{
		{tc("A", tn("a"), tn("b")), tc("A", tn("b"), tn("a"))}, {tc("A", tc("B", tn("a"))), tc("A", tc("B"), tn("a"))}, {{L: []api.Ty{{}}}, {}}, {{L: []api.Ty{{}, {}}}, {L: []api.Ty{{L: []api.Ty{{}}}}}},
	} {
		if Same([]api.Decl{inType(x[0])}, []api.Decl{inType(x[1])}) || !Same([]api.Decl{inType(x[0])}, []api.Decl{inType(x[0])}) {
			t.Errorf("%+v", x)
		}
	}
	for _, x := range [][2]api.Decl{
		{ddata("T", []string{"a", "b"}), ddata("T", []string{"b", "a"})}, {ddata("T", []string{"a b"}), ddata("T", []string{"a", "b"})}, {ddata("T", nil), ddata("T", []string{""})},
		{ddata("T", nil, cdecl("A"), cdecl("B")), ddata("T", nil, cdecl("B"), cdecl("A"))}, {ddata("T", nil, cdecl("A", field(1, tn("a"))), cdecl("B")), ddata("T", nil, cdecl("A"), cdecl("B", field(1, tn("a"))))},
		{ddata("T", nil, cdecl("A", field(1, tn("a")), field(2, tn("a")))), ddata("T", nil, cdecl("A", field(2, tn("a")), field(1, tn("a"))))},
	} {
		if Same([]api.Decl{x[0]}, []api.Decl{x[1]}) || Same([]api.Decl{x[1]}, []api.Decl{x[0]}) || Same([]api.Decl{x[0], x[1]}, []api.Decl{x[1], x[0]}) || !Same([]api.Decl{x[0], x[1]}, []api.Decl{x[0], x[1]}) {
			t.Errorf("%+v", x)
		}
	}
}

func TestP111Sown(t *testing.T) {
	d := &sower{rarely: 30}
	var l []api.Expr
	for range 250 {
		l = append(l, d.expr(1+d.below(3)))
	}
	l = append(l, l[:100]...)
	alike := 0
	for _, a := range l {
		for _, b := range l {
			if want := toldExpr(a) == toldExpr(b); SameExpr(a, b) != want || Same([]api.Decl{dlet("f", a)}, []api.Decl{dlet("f", b)}) != want {
				t.Fatalf("%+v %+v", a, b)
			} else if want {
				alike++
			}
		}
	}
	var ds [][]api.Decl
	for range 150 {
		k := make([]api.Decl, d.below(3))
		for i := range k {
			k[i] = d.decl(1)
		}
		ds = append(ds, k)
	}
	for _, a := range ds {
		for _, b := range ds {
			if Same(a, b) != (told(a) == told(b)) {
				t.Fatalf("%+v %+v", a, b)
			}
		}
	}
	if alike < 400 {
		t.Error(alike)
	}
}

// small is all trees of a few nodes of a few names.
func small() []api.Expr {
	leaves := []api.Expr{nm("a"), nm("b"), num(1), str("a"), made("A"), prim("len")}
	pats := []api.Pat{pn("a"), pany(), pnum(1), pstr("a"), pcon("A"), pcon("A", pcon("A")), pcon("A", pn("a"), pany()), pcon("A", pcon("A", pn("a")), pany())}
	grow := func(in, side []api.Expr) []api.Expr {
		var l []api.Expr
		for _, a := range in {
			l = append(l, lam("a", a), made("A", a), prim("len", a))
			for _, p := range pats {
				l = append(l, cased(a, arm(p, nm("a"))), cased(nm("a"), arm(p, a)), cased(num(1), arm(pany(), a), arm(p, num(1))))
			}
			for _, b := range side {
				l = append(l, app(a, b), app(b, a), let("a", a, b), let("a", b, a), rec("a", a, b), rec("a", b, a), made("A", a, b), made("A", b, a), prim("len", a, b), prim("len", b, a), prim("-", a, b), prim("-", b, a), prim("++", a, b))
			}
		}
		return l
	}
	two := grow(leaves, leaves)
	return slices.Concat(leaves, two, grow(two, leaves[:5]))
}

func TestP114OneWriting(t *testing.T) {
	byText, byTold := map[string]string{}, map[string]string{}
	for _, x := range small() {
		s, e := TextExpr(x)
		if e != 0 {
			t.Fatalf("%+v: %v", x, e)
		}
		told := toldExpr(x)
		if was, ok := byText[s]; ok && was != told {
			t.Fatalf("%q is the writing of %s and %s", s, was, told)
		}
		if was, ok := byTold[told]; ok && was != s {
			t.Fatalf("%s is written as %q and %q", told, was, s)
		}
		byText[s], byTold[told] = told, s
	}
	if len(byText) < 10000 || len(byText) != len(byTold) {
		t.Error(len(byText), len(byTold))
	}
}

func TestP114OneWritingOfDeclarations(t *testing.T) {
	var one []api.Decl
	tys := []api.Ty{tn("a"), tc("A"), tc("A", tn("a")), tc("A", tc("A")), tc("A", tc("A", tn("a"))), tf(tn("a"), 1, tc("A")), tf(tn("a"), 3, tf(tn("a"), 2, tn("a"))), tf(tf(tn("a"), 3, tn("a")), 2, tn("a")), tc("A", tf(tn("a"), 1, tn("a")))}
	for _, params := range [][]string{nil, {"a"}, {"a", "b"}} {
		one = append(one, ddata("A", params, cdecl("A")), ddata("A", params, cdecl("A"), cdecl("B")))
		for _, x := range tys {
			one = append(one, ddata("A", params, cdecl("A"), cdecl("A", field(1, x))), ddata("A", params, cdecl("A", field(2, x)), cdecl("A")), ddata("A", params, cdecl("A", field(3, x))))
			for _, y := range tys {
				one = append(one, ddata("A", params, cdecl("A", field(1, x), field(1, y))), ddata("A", params, cdecl("A", field(1, x)), cdecl("A", field(1, y))))
			}
		}
	}
	for _, x := range small()[:300] {
		one = append(one, dlet("a", x), drec("a", x), dlet("b", x))
	}
	var l [][]api.Decl
	for i, a := range one {
		l = append(l, []api.Decl{a})
		for j := range 25 {
			l = append(l, []api.Decl{a, one[(i+j*j*7)%len(one)]})
		}
	}
	byText, byTold := map[string]string{}, map[string]string{}
	for _, x := range l {
		s, e := Text(x)
		told := told(x)
		if e != 0 {
			t.Fatalf("%+v: %v", x, e)
		}
		if was, ok := byText[s]; ok && was != told {
			t.Fatalf("%q is the writing of %s and %s", s, was, told)
		}
		if was, ok := byTold[told]; ok && was != s {
			t.Fatalf("%s is written as %q and %q", told, was, s)
		}
		byText[s], byTold[told] = told, s
	}
	if len(byText) < 10000 {
		t.Error(len(byText))
	}
}

// The writing is tokens with one blank between two.
func TestP113Tokens(t *testing.T) {
	d := &sower{}
	for range 1000 {
		s, e := Text([]api.Decl{d.decl(4), d.decl(3)})
		if e == api.ErrLong {
			continue
		}
		l, bad := lex.Tokens(s)
		if again, _ := lex.Write(l); bad != (api.Diag{}) || again != s {
			t.Fatalf("%q", s)
		}
	}
}

// What is handed in stays as it is, and so does what stands behind its lists.
func TestR3NothingChanged(t *testing.T) {
	d := &sower{rarely: 100}
	for range 1000 {
		mark := nm("mark")
		x := d.expr(4)
		behind := append(slices.Clone(x.L), mark, mark, mark, mark)
		arms := append(slices.Clone(x.Arms), api.Arm{E: mark}, api.Arm{E: mark})
		x.L, x.Arms = behind[:len(x.L)], arms[:len(x.Arms)]
		fields := append(slices.Repeat([]api.Field{field(1, d.ty(3))}, 2), field(2, tn("mark")))
		l := []api.Decl{dlet("f", x), ddata("T", nil, api.ConDecl{Name: "A", Fields: fields[:2]})}
		copied := []api.Decl{(&places{}).decl(l[0]), (&places{}).decl(l[1])}
		was := told(l)
		Text(l)
		TextExpr(x)
		Depth(l[0])
		Depth(l[1])
		if !Same(l, copied) || !SameExpr(x, copied[0].E) {
			t.Fatal(was)
		}
		if n := len(x.L); told(l) != was || behind[n].S != "mark" || behind[n+1].S != "mark" || behind[n+2].S != "mark" || behind[n+3].S != "mark" || arms[len(x.Arms)].E.S != "mark" || fields[2].T.S != "mark" {
			t.Fatal(was)
		}
	}
}

// Trees that are deeper than calls go, and lists of very many.
func TestR1Huge(t *testing.T) {
	defer debug.SetMaxStack(debug.SetMaxStack(1 << 23))
	const n = 1 << 17
	chain := func(around func(x api.Expr) api.Expr) api.Expr {
		x := nm("a")
		for range n - 1 {
			x = around(x)
		}
		return x
	}
	for i, around := range []func(x api.Expr) api.Expr{
		func(x api.Expr) api.Expr { return api.Expr{Kind: api.ExLam, S: "x", L: []api.Expr{x}} },
		func(x api.Expr) api.Expr { return api.Expr{Arms: []api.Arm{{E: x}}} },
	} {
		x, y := chain(around), chain(around)
		if !SameExpr(x, y) || SameExpr(x, around(y)) || SameExpr(around(x), y) {
			t.Error(i)
		}
		if Depth(dlet("f", x)) != n || !refusedExpr(x, api.ErrArg) {
			t.Error(i)
		}
	}
	p, ty := pany(), tn("a")
	for range n - 2 {
		p = pcon("A", p)
		ty = tc("A", ty)
	}
	x := cased(nm("a"), arm(p, nm("a")))
	if Depth(dlet("f", x)) != n || !SameExpr(x, x) || SameExpr(x, cased(nm("a"), arm(p.L[0], nm("a")))) || !refusedExpr(x, api.ErrArg) {
		t.Error("patterns")
	}
	d := inType(ty)
	if Depth(d) != n-1 || !Same([]api.Decl{d}, []api.Decl{d}) || Same([]api.Decl{d}, []api.Decl{inType(ty.L[0])}) || !refused(api.ErrArg, d) {
		t.Error("types")
	}
	wide := made("A", slices.Repeat([]api.Expr{nm("a")}, n)...)
	if Depth(dlet("f", wide)) != 2 || !SameExpr(wide, wide) {
		t.Error("many")
	}
	if s, e := TextExpr(wide); s != "" || e != api.ErrLong {
		t.Error(e)
	}
}

// What stands in itself is deeper than MaxDepth.
func TestR1WithinItself(t *testing.T) {
	x := lam("x", nm("a"))
	x.L[0] = x
	if s, e := TextExpr(x); s != "" || e != api.ErrArg {
		t.Error(e)
	}
	y := app(nm("a"), nm("a"))
	y.L[0], y.L[1] = y, y
	if s, e := TextExpr(y); s != "" || e != api.ErrArg {
		t.Error(e)
	}
	p := pcon("A", pany(), pany())
	p.L[0], p.L[1] = p, p
	if !refusedExpr(cased(nm("a"), arm(p, nm("a"))), api.ErrArg) {
		t.Error("a pattern")
	}
	ty := tf(tn("a"), 1, tn("a"))
	ty.L[0], ty.L[1] = ty, ty
	if !refused(api.ErrArg, inType(ty)) {
		t.Error("a type")
	}
}
