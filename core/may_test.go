package core

import (
	"fmt"
	"reflect"
	"slices"
	"strings"
	"testing"

	"usufruct/api"
)

// mayAsModel holds May against the model.
func mayAsModel(t *testing.T, p api.Prog) api.Errno {
	t.Helper()
	was := clone(p)
	e := May(p)
	if e != modelMay(p) || !alike(p, was) {
		t.Fatalf("%d of %v", e, p.Tops)
	}
	return e
}

// progs is programs that may be; in the last two there are variables that nothing binds, bound in another order.
func progs() []api.Prog {
	small := resolved("data T = A 1 T | B let rec f x = case x of { A (A y) -> let z = y in f z ; B -> 1 }")
	lone := func(kind uint8, n int, l ...api.Core) api.Core { return api.Core{Kind: kind, N: n, L: l} }
	v, i := func(n int) api.Core { return lone(api.CoVar, n) }, lone(api.CoInt, 0)
	pat := func(n int) api.CPat { return api.CPat{Kind: api.PtName, N: n} }
	own := api.Prog{Vars: 9, Tops: []api.Top{
		{Name: "same", E: lone(api.CoLet, 3, lone(api.CoLam, 7, v(7)), v(3))},
		{Name: "same", Rec: true, E: lone(api.CoLam, 2, lone(api.CoRec, 4, lone(api.CoLam, 0, lone(api.CoApp, 5, v(4), v(0))), lone(api.CoPrim, api.PrAdd, v(2), lone(api.CoTop, 1))))},
		{Name: "", E: api.Core{Kind: api.CoCase, L: []api.Core{lone(api.CoTop, 0)}, Arms: []api.CArm{{P: pat(8), E: v(8)}, {P: pat(1), E: i}}}},
	}}
	// What a kind does not name counts for nothing.
	full := clone(own)
	full.Tops[0].E.Arms = []api.CArm{{E: api.Core{Kind: api.CoVar, N: -5}}, {P: pat(3)}}
	full.Tops[0].E.I, full.Tops[0].E.S, full.Tops[2].E.N = 8, "s", -7
	full.Tops[2].E.Arms[0].P.I, full.Tops[2].E.Arms[0].P.S = -3, "x"
	return []api.Prog{{}, {Sig: sigOf(""), Vars: api.MaxVars}, small, own, full}
}

// TestP143May: programs that may be, and each place of them being something else.
func TestP143May(t *testing.T) {
	for i, p := range append(progs(), resolved(baseText)) {
		if mayAsModel(t, p) != api.OK {
			t.Fatal(i, p.Tops)
		}
		told := map[api.Errno]int{}
		spoil(reflect.ValueOf(&p.Tops).Elem(), func(where string) { told[mayAsModel(t, p)]++ })
		spoil(reflect.ValueOf(&p.Vars).Elem(), func(where string) { told[mayAsModel(t, p)]++ })
		if i > 1 && (told[api.OK] < 50 || told[api.ErrArg] < 200) {
			t.Error(i, told)
		}
	}
	p := progs()[2]
	spoil(reflect.ValueOf(&p.Sig).Elem(), func(where string) { mayAsModel(t, p) })
}

// TestP143MayTwo: two places of small ones being something else.
func TestP143MayTwo(t *testing.T) {
	t.Parallel()
	for _, p := range progs()[2:4] {
		n := 0
		spoil(reflect.ValueOf(&p.Tops).Elem(), func(where string) {
			if n++; n%9 != 0 {
				return
			}
			spoilt, k := clone(p), 0
			spoil(reflect.ValueOf(&spoilt.Tops).Elem(), func(second string) {
				if k++; k%2 == 0 {
					mayAsModel(t, spoilt)
				}
			})
		})
	}
}

// TestP143Each: each way in which a program may not be, by hand.
func TestP143Each(t *testing.T) {
	v, i := api.Core{Kind: api.CoVar}, api.Core{Kind: api.CoInt}
	lam := func(n int, x api.Core) api.Core { return api.Core{Kind: api.CoLam, N: n, L: []api.Core{x}} }
	app := func(x, y api.Core) api.Core { return api.Core{Kind: api.CoApp, L: []api.Core{x, y}} }
	let := func(kind uint8, n int, x, y api.Core) api.Core {
		return api.Core{Kind: kind, N: n, L: []api.Core{x, y}}
	}
	cased := func(arms ...api.CArm) api.Core {
		return api.Core{Kind: api.CoCase, L: []api.Core{i}, Arms: arms}
	}
	pat := func(kind uint8, n int, l ...api.CPat) api.CPat { return api.CPat{Kind: kind, N: n, L: l} }
	arm := func(p api.CPat, x api.Core) api.CArm { return api.CArm{P: p, E: x} }
	name, top := pat(api.PtName, 0), func(n int) api.Core { return api.Core{Kind: api.CoTop, N: n} }
	con := func(n int, l ...api.Core) api.Core { return api.Core{Kind: api.CoCon, N: n, L: l} }
	prim := func(n int, l ...api.Core) api.Core { return api.Core{Kind: api.CoPrim, N: n, L: l} }
	for k, c := range []struct {
		x  api.Core
		ok bool
	}{
		{i, true}, {lam(0, v), true}, {lam(1, i), true}, {v, false}, {lam(2, i), false}, {lam(-1, i), false}, {lam(1, v), false},
		{app(lam(0, v), v), false}, {app(lam(0, v), lam(0, v)), false}, {app(lam(0, v), lam(1, i)), true}, {lam(0, lam(0, v)), false},
		{let(api.CoLet, 0, i, v), true}, {let(api.CoLet, 0, v, i), false}, {app(let(api.CoLet, 0, i, v), v), false},
		{let(api.CoRec, 0, lam(1, v), v), true}, {let(api.CoRec, 0, i, v), false}, {let(api.CoRec, 0, v, v), false}, {let(api.CoRec, 0, lam(0, v), i), false},
		{cased(), false}, {cased(arm(name, v)), true}, {cased(arm(name, i), arm(name, i)), false}, {cased(arm(name, i), arm(pat(api.PtAny, 0), v)), false},
		{cased(arm(pat(api.PtName, 1), v)), false}, {cased(arm(pat(api.PtName, 2), i)), false}, {cased(arm(pat(api.PtName, -1), i)), false},
		{cased(arm(pat(api.PtCon, api.CnPair, name, name), i)), false}, {cased(arm(pat(api.PtCon, api.CnPair, name, pat(api.PtName, 1)), v)), true},
		{cased(arm(pat(api.PtCon, api.CnPair, name), i)), false}, {cased(arm(pat(api.PtCon, api.CnNil), i)), true}, {cased(arm(pat(api.PtCon, api.CnNil, name), i)), false},
		{cased(arm(pat(api.PtCon, 15), i)), false}, {cased(arm(pat(api.PtCon, -1), i)), false}, {cased(arm(pat(0, 0), i)), false}, {cased(arm(pat(6, 0), i)), false},
		{cased(arm(pat(api.PtAny, 0, name), i)), false}, {cased(arm(pat(api.PtName, 0, name), i)), false}, {cased(arm(pat(api.PtInt, 0, name), i)), false}, {cased(arm(pat(api.PtStr, 0, name), i)), false},
		{cased(arm(pat(api.PtInt, -9), i), arm(pat(api.PtStr, 99), i), arm(pat(api.PtAny, -1), i)), true},
		{con(api.CnNil), true}, {con(15), false}, {con(-1), false}, {con(api.CnNil, i), false}, {con(api.CnPair, i, i), true}, {con(api.CnPair, i), false}, {con(api.CnPair, i, v), false},
		{prim(0), false}, {prim(19), false}, {prim(-1), false}, {prim(api.PrSet, i, i, i), true}, {prim(api.PrSet, i, i), false}, {prim(api.PrLen, i), true}, {prim(api.PrLen), false},
		{top(0), true}, {top(1), false}, {top(2), false}, {top(-1), false}, {api.Core{Kind: api.CoFun}, false}, {api.Core{}, false}, {api.Core{Kind: 255}, false},
		{api.Core{Kind: api.CoInt, L: []api.Core{i}}, false}, {api.Core{Kind: api.CoStr, L: []api.Core{i}}, false}, {api.Core{Kind: api.CoStr, N: -1, I: 5}, true},
		{api.Core{Kind: api.CoInt, Arms: []api.CArm{arm(name, v)}}, true}, {lam(0, api.Core{Kind: api.CoVar, L: []api.Core{i}}), false}, {api.Core{Kind: api.CoTop, L: []api.Core{i}}, false},
		{api.Core{Kind: api.CoLam}, false}, {api.Core{Kind: api.CoLam, L: []api.Core{i, i}}, false}, {api.Core{Kind: api.CoApp}, false}, {api.Core{Kind: api.CoRec}, false}, {api.Core{Kind: api.CoRec, L: []api.Core{lam(1, i)}}, false},
		{api.Core{Kind: api.CoLet, L: []api.Core{i}}, false}, {api.Core{Kind: api.CoCase, Arms: []api.CArm{arm(name, v)}}, false},
	} {
		want := api.ErrArg
		if c.ok {
			want = api.OK
		}
		p := api.Prog{Sig: sigOf(""), Vars: 2, Tops: []api.Top{{E: i}, {Name: "f", E: c.x}}}
		if e := mayAsModel(t, p); e != want {
			t.Error(k, e)
		}
		p.Tops[1].Rec = true
		if e := mayAsModel(t, p); e != api.OK && c.ok && c.x.Kind == api.CoLam || e == api.OK && c.x.Kind != api.CoLam {
			t.Error("rec", k, e)
		}
		// What is bound in one top-level name is not bound in another one.
		p.Tops = append(p.Tops, api.Top{E: lam(0, i)})
		mayAsModel(t, p)
		p.Tops[2].E = v
		if mayAsModel(t, p) == api.OK {
			t.Error("behind", k)
		}
	}
	rec := api.Prog{Tops: []api.Top{{E: i}, {Rec: true, E: lam(0, top(1))}, {E: top(1)}}, Vars: 1}
	if mayAsModel(t, rec) != api.OK {
		t.Error("rec")
	}
	rec.Tops[1].E.L[0].N = 2
	if mayAsModel(t, rec) == api.OK {
		t.Error("a name behind")
	}
}

// TestP143Limits: as many top-level names and variables as there may be, and one more.
func TestP143Limits(t *testing.T) {
	tops := slices.Repeat([]api.Top{{Name: "a", E: api.Core{Kind: api.CoInt}}}, 61)
	for n, want := range map[int]api.Errno{0: api.OK, 59: api.OK, 60: api.OK, 61: api.ErrArg} {
		if e := mayAsModel(t, api.Prog{Tops: tops[:n]}); e != want {
			t.Error(n, e)
		}
	}
	for n, want := range map[int]api.Errno{-1 << 63: api.ErrArg, -1: api.ErrArg, 0: api.OK, 1: api.OK, 1<<20 - 1: api.OK, 1 << 20: api.OK, 1<<20 + 1: api.ErrArg, 1<<63 - 1: api.ErrArg} {
		if e := mayAsModel(t, api.Prog{Vars: n}); e != want {
			t.Error(n, e)
		}
	}
}

// sownCore is a core of any kind at random, also of those that there are not.
func (d *dice) sownCore(deep int) api.Core {
	c := api.Core{Kind: uint8(d.below(14)), N: d.below(5) - 1, I: int64(d.below(2)), S: one(d, "", "s")}
	if d.below(2) == 0 {
		c.Kind = one(d, api.CoVar, api.CoLam, api.CoLet, api.CoRec, api.CoCase)
	}
	if deep < 1 {
		c.Kind = api.CoVar
		return c
	}
	for range d.below(4) {
		c.L = append(c.L, d.sownCore(deep-1))
	}
	for range d.below(3) * d.below(2) {
		c.Arms = append(c.Arms, api.CArm{P: d.sownPat(2), E: d.sownCore(deep - 1)})
	}
	return c
}

func (d *dice) sownPat(deep int) api.CPat {
	p := api.CPat{Kind: uint8(d.below(7)), N: d.below(5) - 1, I: int64(d.below(2)), S: one(d, "", "s")}
	for range d.below(3) * min(deep, 1) {
		p.L = append(p.L, d.sownPat(deep-1))
	}
	return p
}

// TestP143Sown: cores at random, in programs.
func TestP143Sown(t *testing.T) {
	d, s := &dice{n: 5}, sigOf("")
	for range 5000 {
		mayAsModel(t, api.Prog{Sig: s, Vars: 4, Tops: []api.Top{{E: d.sownCore(2)}, {Rec: true, E: d.sownCore(3)}}})
	}
}

// TestP144SizeFree: over all kinds, also over those that there are not.
func TestP144SizeFree(t *testing.T) {
	d := &dice{n: 7}
	for range 30000 {
		c := d.sownCore(d.below(5))
		was := clone(c)
		free, size := Free(c), Size(c)
		if !slices.Equal(free, modelFree(c)) || size != modelSize(c) || !alike(c, was) {
			t.Fatal(c, free, size)
		}
	}
}

// TestP144ByHand: sizes and free variables of cores, and of what stands in them.
func TestP144ByHand(t *testing.T) {
	for text, want := range map[string]string{
		"let f = 1":                           "1 []",
		"let f x = x":                         "2 []; 1 [0]",
		"let f x = let y = x in y x":          "6 []; 5 [0]; 1 [0]",
		"let f x = let rec y z = y x in y":    "7 []; 6 [0]; 4 [0 1]",
		"let f x y = case x of { z -> y z }":  "7 []; 6 [0]; 5 [0 1]",
		"let f x = Pair x (\\ y -> Pair y x)": "7 []; 6 [0]; 1 [0]",
		"let f x = case x of { Pair y (Pair z _) -> y z x ; y -> y x 1 ; _ -> 2 }": "14 []; 13 [0]; 1 [0]",
	} {
		c := resolved(text).Tops[0].E
		got := fmt.Sprint(Size(c), " ", Free(c))
		for range strings.Count(want, ";") {
			c = c.L[0]
			got += fmt.Sprint("; ", Size(c), " ", Free(c))
		}
		if got != want {
			t.Error(text, got)
		}
	}
	v := func(n int, l ...api.Core) api.Core { return api.Core{Kind: api.CoVar, N: n, L: l} }
	name := api.CPat{Kind: api.PtName, N: 1, L: []api.CPat{{Kind: api.PtName, N: 2}}}
	none := api.CPat{Kind: 9, L: []api.CPat{{Kind: api.PtName, N: 2}}}
	both := []api.CArm{{P: name, E: v(1, v(2))}, {P: none, E: v(3, v(2))}}
	for i, c := range []struct {
		c    api.Core
		size int
		free []int
	}{
		{api.Core{}, 1, nil},
		{v(-5), 1, []int{-5}},
		{v(7, v(3), v(7, v(-1))), 4, []int{-1, 3, 7}},
		{api.Core{L: []api.Core{v(2)}, Arms: both}, 6, []int{2}},
		{api.Core{Kind: api.CoCase, L: []api.Core{v(2)}, Arms: both}, 6, []int{2, 3}},
		{api.Core{Kind: api.CoCase, L: []api.Core{v(0), v(1)}, Arms: both[1:]}, 5, []int{0, 1, 3}},
		{api.Core{Kind: api.CoCase, Arms: both[1:]}, 3, []int{3}},
		{api.Core{Kind: api.CoLam, N: 1, Arms: both}, 5, nil},
		{api.Core{Kind: api.CoLam, N: 1, L: []api.Core{v(1), v(2), v(1)}}, 4, []int{2}},
		{api.Core{Kind: api.CoRec, N: 1, L: []api.Core{v(1), v(2), v(1)}}, 4, []int{2}},
		{api.Core{Kind: api.CoLet, N: 1, L: []api.Core{v(2), v(1), v(1)}}, 4, []int{2}},
		{api.Core{Kind: api.CoLet, N: 1, L: []api.Core{v(1), v(1), v(1)}}, 4, []int{1}},
		{api.Core{Kind: api.CoApp, N: 1, L: []api.Core{v(1), v(1)}}, 3, []int{1}},
		{api.Core{Kind: api.CoFun, N: 1, L: []api.Core{v(1), v(0)}}, 3, []int{0, 1}},
		{api.Core{Kind: 200, N: 1, L: []api.Core{v(1), v(0)}}, 3, []int{0, 1}},
		{api.Core{Kind: api.CoTop, N: 1}, 1, nil},
		{api.Core{L: []api.Core{{Kind: api.CoLam, N: 1, L: []api.Core{{Kind: api.CoLam, N: 1, L: []api.Core{v(1)}}, v(1)}}, v(1)}}, 6, []int{1}},
	} {
		if size, free := Size(c.c), Free(c.c); size != c.size || !slices.Equal(free, c.free) {
			t.Error(i, size, free)
		}
	}
}

// sameAsModel holds Same against plain equality but for places.
func sameAsModel(t *testing.T, a, b api.Core) bool {
	t.Helper()
	x, y := clone(a), clone(b)
	for _, c := range []*api.Core{&x, &y} {
		each(reflect.ValueOf(c).Elem(), func(v reflect.Value) {
			if v.Type() == reflect.TypeOf(api.Pos{}) {
				v.SetZero()
			}
		})
	}
	is := Same(a, b)
	if is != alike(x, y) || Same(b, a) != is {
		t.Fatal(is, a, b)
	}
	return is
}

// TestP144Same: what is the same with other places, and with each other thing being something else.
func TestP144Same(t *testing.T) {
	t.Parallel()
	d, same := &dice{n: 9}, 0
	for i := range 120 {
		a := d.sownCore(i % 4)
		b := clone(a)
		each(reflect.ValueOf(&b).Elem(), func(v reflect.Value) {
			switch {
			case v.Type() == reflect.TypeOf(api.Pos{}):
				v.Set(reflect.ValueOf(api.Pos{At: d.below(9), Line: d.below(9), Col: d.below(9)}))
			case v.Kind() == reflect.Slice && v.Len() == 0:
				v.Set(reflect.MakeSlice(v.Type(), 0, d.below(3)))
			}
		})
		if !sameAsModel(t, a, a) || !sameAsModel(t, a, b) {
			t.Fatal(a)
		}
		spoil(reflect.ValueOf(&b).Elem(), func(where string) {
			if sameAsModel(t, a, b) {
				same++
			}
		})
		sameAsModel(t, a, d.sownCore(i%4))
	}
	if same < 400 {
		t.Error(same)
	}
}
