package core

import (
	"reflect"
	"runtime/debug"
	"slices"
	"testing"

	"usufruct/api"
)

// bindersIn is the variables that are bound in p, in the order in which they are met.
func bindersIn(p api.Prog) []int {
	var l []int
	for _, t := range p.Tops {
		l = append(l, binders(t.E)...)
	}
	return l
}

// TestP145May: what Resolve tells may be, and its variables are bound once, in order.
func TestP145May(t *testing.T) {
	d, s := &dice{n: 11}, sigOf(baseText)
	right := 0
	for range 20000 {
		p, x := Resolve(d.sown(300), s)
		if x.E != api.OK {
			continue
		}
		right++
		if May(p) != api.OK || modelMay(p) != api.OK {
			t.Fatal(p.Tops)
		}
		l := bindersIn(p)
		if len(l) != p.Vars {
			t.Fatal(l, p.Vars)
		}
		for i, n := range l {
			if i != n {
				t.Fatal(l)
			}
		}
	}
	if right < 5000 {
		t.Error(right)
	}
}

// renamed is l with other names, the same for the same ones.
func renamed(l []api.Decl, as func(string) string) []api.Decl {
	l = clone(l)
	for i := range l {
		l[i].Name = as(l[i].Name)
	}
	each(reflect.ValueOf(&l).Elem(), func(v reflect.Value) {
		switch x := v.Interface().(type) {
		case api.Expr:
			if slices.Contains([]uint8{api.ExName, api.ExLam, api.ExLet, api.ExRec}, x.Kind) {
				v.FieldByName("S").SetString(as(x.S))
			}
		case api.Pat:
			if x.Kind == api.PtName {
				v.FieldByName("S").SetString(as(x.S))
			}
		}
	})
	return l
}

// TestP145Names: other names, the same for the same ones, make no difference but in Name.
func TestP145Names(t *testing.T) {
	d, s := &dice{n: 13}, sigOf(baseText)
	names := []string{"a", "f", "g", "h", "i", "x", "y", "z", "u", "v", "w"}
	odd := []string{"", "\x00", "Nil", "+", "open", "let", "\xff", "a b", "1", "_", "Xx"}
	from := func(l []string) func(string) string {
		return func(s string) string {
			if i := slices.Index(names, s); i >= 0 {
				return l[(i+4)%len(l)]
			}
			return s + "!"
		}
	}
	for _, as := range []func(string) string{
		func(s string) string { return s + "'" },
		func(s string) string { return "Pair" + s },
		from(names), // each is another one of them
		from(odd),
	} {
		for range 3000 {
			l := d.sown(100)
			p, x := Resolve(l, s)
			q, y := Resolve(renamed(l, as), s)
			for i := range q.Tops {
				if q.Tops[i].Name != as(p.Tops[i].Name) {
					t.Fatal(q.Tops[i].Name)
				}
				q.Tops[i].Name = p.Tops[i].Name
			}
			if x != y || !alike(p, q) {
				t.Fatal(l, x, y)
			}
		}
	}
}

// TestR3NewMemory: no two lists of the top-level names share memory, none of them does with what was handed in; what was handed in is as it was.
func TestR3NewMemory(t *testing.T) {
	d, s := &dice{n: 15}, sigOf(baseText)
	for range 500 {
		l := d.sown(1000)
		p, _ := Resolve(l, s)
		q, _ := Resolve(l, s)
		if !apart(p.Tops, q.Tops) || !apart(l, p.Tops) || !apart(s, p.Tops) {
			t.Fatal(l)
		}
	}
	for range 500 {
		c := d.sownCore(4)
		if !apart(Free(c), Free(c), c) {
			t.Fatal(c)
		}
	}
}

// TestP142Shared: lists that stand in many places of what is handed in are as many lists.
func TestP142Shared(t *testing.T) {
	s := sigOf("")
	name := api.Expr{Kind: api.ExName, S: "x"}
	lam := api.Expr{Kind: api.ExLam, S: "x", L: []api.Expr{name}}
	two := api.Expr{Kind: api.ExApp, L: []api.Expr{lam, lam}}
	pat := api.Pat{Kind: api.PtCon, S: "Pair", L: []api.Pat{{Kind: api.PtName, S: "x"}, {Kind: api.PtAny}}}
	x := api.Expr{Kind: api.ExCase, L: []api.Expr{two}, Arms: []api.Arm{{P: pat, E: two}, {P: pat, E: name}}}
	x.Arms[1].E.L = x.Arms[1].E.L[:0]
	l := []api.Decl{{Kind: api.DcLet, Name: "f", E: x}, {Kind: api.DcLet, Name: "g", E: x}}
	if d := resolveAsModel(t, l, s); d.E != api.OK {
		t.Fatal(d)
	}
	p, _ := Resolve(l, s)
	if p.Vars != 12 || May(p) != api.OK || !apart(p.Tops) {
		t.Error(p)
	}
	twice := api.Pat{Kind: api.PtCon, S: "Pair", L: []api.Pat{pat, pat}}
	l[1].E.Arms = []api.Arm{{P: twice, E: name}}
	if d := resolveAsModel(t, l, s); d.E != api.ErrTwice {
		t.Error(d)
	}
	// In cores a variable would be bound at two places.
	v := api.Core{Kind: api.CoVar}
	cl := api.Core{Kind: api.CoLam, L: []api.Core{v}}
	for _, c := range []struct {
		l    []api.Core
		want api.Errno
	}{{[]api.Core{cl, v}, api.ErrArg}, {[]api.Core{cl, cl}, api.ErrArg}, {[]api.Core{cl, {Kind: api.CoInt}}, api.OK}} {
		if e := mayAsModel(t, api.Prog{Vars: 1, Tops: []api.Top{{E: api.Core{Kind: api.CoApp, L: c.l}}}}); e != c.want {
			t.Error(c, e)
		}
	}
	int1 := []api.Core{{Kind: api.CoInt}, {Kind: api.CoInt}}
	deep := api.Core{Kind: api.CoApp, L: int1}
	for range 10 {
		deep = api.Core{Kind: api.CoApp, L: []api.Core{deep, deep}}
	}
	if e := May(api.Prog{Tops: []api.Top{{E: deep}, {E: deep}}}); e != api.OK || Size(deep) != 4095 || !Same(deep, clone(deep)) || Free(deep) != nil {
		t.Error(e, Size(deep))
	}
}

const many = 1 << 18

// nested is an expression in so many others, each made by around.
func nested(x api.Expr, around func(x api.Expr) api.Expr) api.Expr {
	for range many {
		x = around(x)
	}
	return x
}

// TestR1Deep: expressions that are deeper than calls go.
func TestR1Deep(t *testing.T) {
	defer debug.SetMaxStack(debug.SetMaxStack(1 << 23))
	leaf := api.Expr{Kind: api.ExInt, N: 5}
	s := api.Sig{Cons: []api.Con{{Name: "P", Fields: make([]api.Type, 1)}}}
	at := api.Pos{At: 5}
	for i, around := range []func(x api.Expr) api.Expr{
		func(x api.Expr) api.Expr { return binder(0, api.Pos{}, x) },
		func(x api.Expr) api.Expr { return binder(1, api.Pos{}, x) },
		func(x api.Expr) api.Expr { return binder(2, api.Pos{}, x) },
		func(x api.Expr) api.Expr { return binder(3, api.Pos{}, x) },
		func(x api.Expr) api.Expr { return api.Expr{Kind: api.ExApp, L: []api.Expr{x, leaf}} },
		func(x api.Expr) api.Expr { return api.Expr{Kind: api.ExApp, L: []api.Expr{leaf, x}} },
		func(x api.Expr) api.Expr { return api.Expr{Kind: api.ExPrim, S: "len", L: []api.Expr{x}} },
		func(x api.Expr) api.Expr { return api.Expr{Kind: api.ExCon, S: "P", L: []api.Expr{x}} },
		func(x api.Expr) api.Expr {
			return api.Expr{Kind: api.ExRec, S: "x", L: []api.Expr{binder(0, api.Pos{}, x), leaf}}
		},
		func(x api.Expr) api.Expr {
			return api.Expr{Kind: api.ExCase, L: []api.Expr{x}, Arms: []api.Arm{{P: api.Pat{Kind: api.PtAny}, E: leaf}}}
		},
	} {
		p, d := Resolve([]api.Decl{{Kind: api.DcLet, Name: "f", E: nested(leaf, around)}}, s)
		if d.E != api.OK {
			t.Fatal(i, d)
		}
		c := p.Tops[0].E
		if n := Size(c); n < many || n > 4*many || Free(c) != nil || !Same(c, c) || Same(c, c.L[0]) {
			t.Error(i, n)
		}
		p.Sig.Datas = []api.Data{{Cons: []int{0}}}
		p.Sig.Cons = []api.Con{{Name: "P", Fields: []api.Type{{Kind: api.TInt}}, Mults: []api.Mult{1}}}
		if May(p) != api.OK {
			t.Error(i)
		}
		wrong := nested(api.Expr{Kind: api.ExName, S: "q", At: at}, around)
		if _, d := Resolve([]api.Decl{{Kind: api.DcLet, E: wrong}}, s); d != (api.Diag{E: api.ErrUnknown, At: at}) {
			t.Error(i, d)
		}
	}
}

// TestR1DeepPatterns: patterns that are deeper than calls go, lists of very many.
func TestR1DeepPatterns(t *testing.T) {
	defer debug.SetMaxStack(debug.SetMaxStack(1 << 23))
	leaf := api.Expr{Kind: api.ExInt, N: 5}
	s := api.Sig{Datas: []api.Data{{Cons: []int{0}}}, Cons: []api.Con{{Name: "P", Fields: []api.Type{{Kind: api.TInt}, {Kind: api.TInt}}, Mults: []api.Mult{1, 1}}}}
	any1 := api.Pat{Kind: api.PtAny}
	for i, around := range []func(p api.Pat) []api.Pat{
		func(p api.Pat) []api.Pat { return []api.Pat{p, any1} },
		func(p api.Pat) []api.Pat { return []api.Pat{any1, p} },
	} {
		p := api.Pat{Kind: api.PtName, S: "x"}
		for range many {
			p = api.Pat{Kind: api.PtCon, S: "P", L: around(p)}
		}
		x := api.Expr{Kind: api.ExCase, L: []api.Expr{leaf}, Arms: []api.Arm{{P: p, E: api.Expr{Kind: api.ExName, S: "x"}}}}
		q, d := Resolve([]api.Decl{{Kind: api.DcLet, E: x}}, s)
		if d.E != api.OK || May(q) != api.OK || q.Vars != 1 {
			t.Fatal(i, d)
		}
		c := q.Tops[0].E
		other := c
		other.Arms = []api.CArm{{P: c.Arms[0].P.L[i], E: c.Arms[0].E}}
		if Size(c) != 3 || Free(c) != nil || !Same(c, c) || Same(c, other) {
			t.Error(i)
		}
	}
	arms := slices.Repeat([]api.Arm{{P: api.Pat{Kind: api.PtName, S: "x"}, E: api.Expr{Kind: api.ExName, S: "x"}}}, many)
	q, d := Resolve([]api.Decl{{Kind: api.DcLet, E: api.Expr{Kind: api.ExCase, L: []api.Expr{leaf}, Arms: arms}}}, s)
	if d.E != api.OK || q.Vars != many || May(q) != api.OK || Size(q.Tops[0].E) != many+2 || Free(q.Tops[0].E) != nil {
		t.Error(d, q.Vars)
	}
	wide := api.Core{Kind: 77, L: slices.Repeat([]api.Core{{Kind: api.CoVar, N: 4}}, many)}
	if Size(wide) != many+1 || !slices.Equal(Free(wide), []int{4}) || !Same(wide, wide) {
		t.Error("wide")
	}
	con := api.Expr{Kind: api.ExCon, S: "P", L: slices.Repeat([]api.Expr{leaf}, many)}
	if _, d := Resolve([]api.Decl{{Kind: api.DcLet, E: con}}, s); d.E != api.ErrArity {
		t.Error(d)
	}
	tops := slices.Repeat([]api.Decl{{Kind: api.DcData}}, many)
	if p, d := Resolve(tops, s); d.E != api.OK || p.Tops != nil {
		t.Error(d)
	}
}

// TestR1WithinItself: what stands in itself and binds has too many variables, or binds one at two places.
func TestR1WithinItself(t *testing.T) {
	at := api.Pos{At: 3}
	x := api.Expr{Kind: api.ExLam, S: "x", At: at, L: make([]api.Expr, 1)}
	x.L[0] = x
	if _, d := Resolve([]api.Decl{{Kind: api.DcLet, E: x}}, api.Sig{}); d != (api.Diag{E: api.ErrLong, At: at}) {
		t.Error(d)
	}
	c := api.Core{Kind: api.CoLam, L: make([]api.Core, 1)}
	c.L[0] = c
	if e := May(api.Prog{Vars: api.MaxVars, Tops: []api.Top{{E: c}}}); e != api.ErrArg {
		t.Error(e)
	}
	p := api.Pat{Kind: api.PtCon, S: "P", At: at, L: make([]api.Pat, 2)}
	p.L[0], p.L[1] = api.Pat{Kind: api.PtName, S: "y", At: at}, p
	s := api.Sig{Cons: []api.Con{{Name: "P", Fields: make([]api.Type, 2)}}}
	cased := api.Expr{Kind: api.ExCase, L: []api.Expr{{Kind: api.ExInt}}, Arms: []api.Arm{{P: p, E: api.Expr{}}}}
	if _, d := Resolve([]api.Decl{{Kind: api.DcLet, E: cased}}, s); d != (api.Diag{E: api.ErrTwice, At: at}) {
		t.Error(d)
	}
}
