package core

import (
	"fmt"
	"slices"
	"strings"
	"testing"

	"usufruct/api"
	"usufruct/lex"
)

// TestP141Prim: each primitive and each sign, by the chapter's list and by api's names.
func TestP141Prim(t *testing.T) {
	for n, word := range signs() {
		if n == 0 {
			continue
		}
		if k, takes2 := Prim(word); k != n || takes2 != takes()[n] || Takes(n) != takes2 {
			t.Error(word, k, takes2, Takes(n))
		}
	}
	for word, n := range map[string]int{"open": api.PrOpen, "read": api.PrRead, "write": api.PrWrite, "close": api.PrClose, "array": api.PrArray, "get": api.PrGet, "set": api.PrSet, "size": api.PrSize, "fail": api.PrFail, "len": api.PrLen, "+": api.PrAdd, "-": api.PrSub, "*": api.PrMul, "/": api.PrDiv, "%": api.PrMod, "<": api.PrLess, "==": api.PrSame, "++": api.PrCat} {
		if k, _ := Prim(word); k != n {
			t.Error(word, k)
		}
	}
	for _, word := range lex.Prims() {
		if n, k := Prim(word); n == 0 || k == 0 {
			t.Error(word)
		}
	}
}

// TestP141None: what is none.
func TestP141None(t *testing.T) {
	none := append(lex.Words(), "", " ", "x", "Open", "open ", " open", "opena", "ope", "+ ", "+++", "=", "---", "OPEN", "\x00", "open\x00", strings.Repeat("open", 1000))
	for _, word := range lex.Signs() {
		if !slices.Contains(signs(), word) {
			none = append(none, word)
		}
	}
	for _, word := range none {
		if n, k := Prim(word); n != 0 || k != 0 {
			t.Errorf("%q: %d %d", word, n, k)
		}
	}
	for _, n := range []int{-1 << 63, -18, -1, 0, 19, 20, 256, 257, 1 << 32, 1<<63 - 1} {
		if Takes(n) != 0 {
			t.Error(n, Takes(n))
		}
	}
}

// resolveAsModel holds Resolve against the model.
func resolveAsModel(t *testing.T, l []api.Decl, s api.Sig) api.Diag {
	t.Helper()
	was, wasSig := clone(l), clone(s)
	p, d := Resolve(l, s)
	want, wantDiag := modelResolve(l, s)
	if d != wantDiag || !alike(p, want) {
		t.Fatalf("%v\nis %v\n%v\nwanted %v\n%v", l, d, p.Tops, wantDiag, want.Tops)
	}
	if !alike(l, was) || !alike(s, wasSig) {
		t.Fatalf("changed: %v", was)
	}
	if d.E != api.OK && (p.Sig.Datas != nil || p.Sig.Cons != nil || p.Tops != nil || p.Vars != 0) {
		t.Fatalf("beside an error: %v", p)
	}
	return d
}

// TestP142Right: what is right, by hand.
func TestP142Right(t *testing.T) {
	for s, want := range map[string][]string{
		"":            {"0"},
		"data T = A":  {"0"},
		"let a = 1":   {"0", "a: i1"},
		`let a = "b"`: {"0", `a: s"b"`},
		// The chapter's examples.
		"let id x = x":                                                     {"1", "id: lam0 (v0)"},
		"let rec f x = f x":                                                {"1", "rec f: lam0 (app (t0) (v0))"},
		"let g x = case x of { Pair a b -> a }":                            {"3", "g: lam0 (case (v0); con3 (v1) (v2): v1)"},
		"let a = 1 let b = a let c = Pair a b":                             {"0", "a: i1", "b: t0", "c: con3 (t0) (t1)"},
		"let f x y = x y let g x = f x f":                                  {"3", "f: lam0 (lam1 (app (v0) (v1)))", "g: lam2 (app (app (t0) (v2)) (t0))"},
		"let a = 1 data T = A let b = a":                                   {"0", "a: i1", "b: t0"},
		"data T = A 1 T | B let a = A B":                                   {"0", "a: con15 (con16)"},
		"let a = B data T = A 1 T | B":                                     {"0", "a: con16"},
		"data T = A let t = A let u = t":                                   {"0", "t: con15", "u: t0"},
		"let f x = let x = x in x":                                         {"2", "f: lam0 (let1 (v0) (v1))"},
		"let f x = let y = x in y":                                         {"2", "f: lam0 (let1 (v0) (v1))"},
		"let f x = let rec x = \\ y -> x in x":                             {"3", "f: lam0 (rec1 (lam2 (v1)) (v1))"},
		"let rec f x = let rec f x = f x in f x":                           {"3", "rec f: lam0 (rec1 (lam2 (app (v1) (v2))) (app (v1) (v0)))"},
		"let f = \\ f -> f":                                                {"1", "f: lam0 (v0)"},
		"let rec f = \\ g -> f":                                            {"1", "rec f: lam0 (t0)"},
		"let rec f f = f":                                                  {"1", "rec f: lam0 (v0)"},
		"let a = 1 let f a = a":                                            {"1", "a: i1", "f: lam0 (v0)"},
		"let a = 1 let f b = a b":                                          {"1", "a: i1", "f: lam0 (app (t0) (v0))"},
		"let a = 1 let b = let a = a in a":                                 {"1", "a: i1", "b: let0 (t0) (v0)"},
		"let a = let b = let c = 1 in c in b":                              {"2", "a: let0 (let1 (i1) (v1)) (v0)"},
		"let f x = (\\ y -> x y) (\\ z -> x z)":                            {"3", "f: lam0 (app (lam1 (app (v0) (v1))) (lam2 (app (v0) (v2))))"},
		"let f x = (\\ x -> x) x":                                          {"2", "f: lam0 (app (lam1 (v1)) (v0))"},
		"let f x = x + 1 * 2":                                              {"1", "f: lam0 (prim11 (v0) (prim13 (i1) (i2)))"},
		"let f x = set x 0 (len (\"a\" ++ \"b\"))":                         {"1", `f: lam0 (prim7 (v0) (i0) (prim10 (prim18 (s"a") (s"b"))))`},
		"let f x = case x of { 1 -> 2 ; _ -> x }":                          {"1", "f: lam0 (case (v0); 1: i2; _: v0)"},
		`let f x = case x of { "a" -> 1 ; y -> y ; x -> x }`:               {"3", `f: lam0 (case (v0); "a": i1; v1: v1; v2: v2)`},
		"let f x = case x of { Pair x y -> x y ; z -> x }":                 {"4", "f: lam0 (case (v0); con3 (v1) (v2): app (v1) (v2); v3: v0)"},
		"let f x y = case x of { Pair (Cons a _) (Pair b 1) -> b a y }":    {"4", "f: lam0 (lam1 (case (v0); con3 (con5 (v2) (_)) (con3 (v3) (1)): app (app (v3) (v2)) (v1)))"},
		"let f x = case x of { Cons x x' -> case x' of { x -> x } }":       {"4", "f: lam0 (case (v0); con5 (v1) (v2): case (v2); v3: v3)"},
		"let f x = case case x of { a -> a } of { a -> a }":                {"3", "f: lam0 (case (case (v0); v1: v1); v2: v2)"},
		"let f x = case x of { a -> 1 } let g a = a let h = \\ a -> f":     {"4", "f: lam0 (case (v0); v1: i1)", "g: lam2 (v2)", "h: lam3 (t0)"},
		"let f x = Cons (case x of { y -> y }) (case x of { y -> Nil })":   {"3", "f: lam0 (con5 (case (v0); v1: v1) (case (v0); v2: con4))"},
		"let f x = let g y = y in case g x of { y -> let x = y in x }":     {"5", "f: lam0 (let1 (lam2 (v2)) (case (app (v1) (v0)); v3: let4 (v3) (v4)))"},
		"let rec f x = case x of { Nil -> Nil ; Cons f y -> Cons f y }":    {"3", "rec f: lam0 (case (v0); con4: con4; con5 (v1) (v2): con5 (v1) (v2))"},
		"let rec f x = case x of { Nil -> Nil ; Cons g y -> Cons g (f y)}": {"3", "rec f: lam0 (case (v0); con4: con4; con5 (v1) (v2): con5 (v1) (app (t0) (v2)))"},
	} {
		l := declared(s)
		resolveAsModel(t, l, sigOf(s))
		p, d := Resolve(l, sigOf(s))
		got := []string{fmt.Sprint(p.Vars)}
		for _, x := range p.Tops {
			rec := ""
			if x.Rec {
				rec = "rec "
			}
			got = append(got, rec+x.Name+": "+said(x.E))
		}
		if d != (api.Diag{}) || !slices.Equal(got, want) {
			t.Errorf("%s: %v %q", s, d, got)
		}
		if May(p) != api.OK {
			t.Error(s)
		}
	}
}

// TestP142Wrong: each error, by hand, at the byte that it has.
func TestP142Wrong(t *testing.T) {
	for _, c := range []struct {
		s  string
		e  api.Errno
		at int
	}{
		{"let h = y", api.ErrUnknown, 8},
		{"let k x = Pair x", api.ErrArity, 10},
		{"let a = a", api.ErrUnknown, 8},
		{"let a = b let b = 1", api.ErrUnknown, 8},
		{"let rec f x = g x let rec g x = f x", api.ErrUnknown, 14},
		{"let a = 1 let a = 2", api.ErrTwice, 14},
		{"let a = 1 data T = A let b = 1 let a = x", api.ErrTwice, 35},
		{"let a = x let a = 1", api.ErrUnknown, 8},
		{"let rec a = 1", api.ErrRec, 8},
		{"let rec a = a", api.ErrRec, 8},
		{"let rec a = let b = \\ x -> x in b", api.ErrRec, 8},
		{"let a = 1 let rec a = 2", api.ErrTwice, 18},
		{"let f x = x let g y = x", api.ErrUnknown, 22},
		{"let f x = (\\ y -> y) y", api.ErrUnknown, 21},
		{"let f x = let y = y in y", api.ErrUnknown, 18},
		{"let f x = let y = x in z", api.ErrUnknown, 23},
		{"let f x = Pair (let y = x in y) y", api.ErrUnknown, 32},
		{"let f x = Pair (let rec y z = x in y) y", api.ErrUnknown, 38},
		{"let f x = Pair (let rec y z = x in z) y", api.ErrUnknown, 35},
		{"let f x = let rec y = 1 in z", api.ErrRec, 10},
		{"let f x = let rec y = y in y", api.ErrRec, 10},
		{"let f x = case y of { y -> y }", api.ErrUnknown, 15},
		{"let f x = case x of { y -> x ; z -> y }", api.ErrUnknown, 36},
		{"let f x = Pair (case x of { y -> y }) y", api.ErrUnknown, 38},
		{"let f x = case x of { Pair y y -> z }", api.ErrTwice, 29},
		{"let f x = case x of { Pair y (Pair z y) -> z }", api.ErrTwice, 37},
		{"let f x = case x of { Pair y z -> u ; Pair y y -> y }", api.ErrUnknown, 34},
		{"let f x = case x of { A -> y }", api.ErrUnknown, 22},
		{"let f x = case x of { Pair y -> y }", api.ErrArity, 22},
		{"let f x = case x of { Nil y -> y }", api.ErrArity, 22},
		{"let f x = case x of { Cons y Cons -> y }", api.ErrArity, 29},
		{"let f x = case x of { Cons y A -> y }", api.ErrUnknown, 29},
		{"let f x = case z of { Cons y A -> y }", api.ErrUnknown, 15},
		{"let f x = A x", api.ErrUnknown, 10},
		{"let f x = A y", api.ErrUnknown, 10},
		{"let f x = List x", api.ErrUnknown, 10},
		{"let f x = Nil y", api.ErrArity, 10},
		{"let f x = Cons", api.ErrArity, 10},
		{"let f x = Cons x (Cons x)", api.ErrArity, 18},
		{"let f x = open x", api.ErrArity, 10},
		{"let f x = close", api.ErrArity, 10},
		{"let f x = close x y", api.ErrArity, 10},
		{"let f x = 1 + close", api.ErrArity, 14},
		{"let f x = y + z", api.ErrUnknown, 10},
		{"let f x = x y z", api.ErrUnknown, 12},
		{"data T = A let f x = x let g = A x", api.ErrArity, 31},
	} {
		l := declared(c.s)
		if p, d := Resolve(l, sigOf(c.s)); d != (api.Diag{E: c.e, At: api.Pos{At: c.at, Line: 1, Col: c.at + 1}}) || p.Tops != nil {
			t.Errorf("%s: %v", c.s, d)
		}
		resolveAsModel(t, l, sigOf(c.s))
	}
}
