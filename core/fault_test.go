package core

import (
	"fmt"
	"reflect"
	"slices"
	"strings"
	"testing"

	"usufruct/api"
)

const (
	baseData = `data T a = A 1 a 1 (T a) | B data U = C `
	baseText = baseData + `let c = 1 let rec f x = case x of { A y (A "s" (A z (A w _))) -> f (y x) ; B -> let z = c in Pair z 2 ; _ -> x }
let g u = let rec h v = h u in (\ w -> h w + len "t") c`
)

// base is right declarations, in which each kind stands.
func base() []api.Decl { return placed(declared(baseText)) }

// TestP142EachFault: each place of declarations being something else.
func TestP142EachFault(t *testing.T) {
	l, s := base(), sigOf(baseText)
	told := map[api.Errno]int{}
	spoil(reflect.ValueOf(&l).Elem(), func(where string) {
		told[resolveAsModel(t, l, s).E]++
	})
	for _, e := range []api.Errno{api.OK, api.ErrArg, api.ErrTwice, api.ErrUnknown, api.ErrArity, api.ErrRec} {
		if told[e] < 4 {
			t.Error(e, told)
		}
	}
}

// TestP142TwoFaults: each error at each place with each other one; of what comes to the same error at the same place, some pairs.
func TestP142TwoFaults(t *testing.T) {
	t.Parallel()
	l, s := base(), sigOf(baseText)
	told := map[api.Diag]bool{{}: true}
	n, first := 0, map[int]bool{}
	spoil(reflect.ValueOf(&l).Elem(), func(where string) {
		n++
		if _, d := Resolve(l, s); !told[d] {
			told[d], first[n] = true, true
		}
	})
	if len(first) < 90 {
		t.Error(len(first))
	}
	i, again := 0, map[api.Diag]int{}
	spoil(reflect.ValueOf(&l).Elem(), func(where string) {
		i++
		_, d := Resolve(l, s)
		if again[d]++; !first[i] && again[d]%60 != 0 {
			return
		}
		k, spoilt := 0, clone(l)
		spoil(reflect.ValueOf(&spoilt).Elem(), func(second string) {
			if k++; k%7 == i%7 || first[i] && (first[k] || k%11 == 0) {
				resolveAsModel(t, spoilt, s)
			}
		})
	})
}

// TestP142Signatures: what names are is told by the signature alone, whatever the signature is.
func TestP142Signatures(t *testing.T) {
	t.Parallel()
	l := base()
	for _, s := range []api.Sig{{}, sigOf(""), sigOf("data T = A data U = B 1 U"), sigOf(baseData)} {
		resolveAsModel(t, l, s)
		spoil(reflect.ValueOf(&s).Elem(), func(where string) { resolveAsModel(t, l, s) })
	}
	two := api.Sig{Cons: []api.Con{{Name: "A"}, {Name: "A", Fields: make([]api.Type, 1)}, {Name: "", Data: -1}}}
	for text, want := range map[string]api.Errno{"let a = A": api.OK, "let a = A 1": api.ErrArity} {
		if d := resolveAsModel(t, declared(text), two); d.E != want {
			t.Error(text, d)
		}
	}
	l = declared("let a = Nil")
	l[0].E.S = ""
	if p, d := Resolve(l, two); d.E != api.OK || p.Tops[0].E.N != 2 {
		t.Error(d)
	}
}

// TestP142Tops: as many top-level names as there may be, and more, and declarations of data types anywhere.
func TestP142Tops(t *testing.T) {
	text := func(from, n int) string {
		var b strings.Builder
		for i := from; i < from+n; i++ {
			fmt.Fprintf(&b, "data D%d = C%d let a%d = %d ", i, i, i, i)
		}
		return b.String()
	}
	l := placed(declared(text(0, 60) + "data E = E"))
	if d := resolveAsModel(t, l, api.Sig{}); d.E != api.OK {
		t.Error(d)
	}
	for _, last := range []string{"let b = 1", "let a3 = 1", "let rec b = 1", "let rec a3 = 1", "let b = x"} {
		more := placed(declared(text(0, 60) + "data E = E " + last + " let a4 = x"))
		if d := resolveAsModel(t, more, api.Sig{}); d != (api.Diag{E: api.ErrLong, At: more[121].At}) {
			t.Error(last, d)
		}
		more[121].Kind = 3
		if d := resolveAsModel(t, more, api.Sig{}); d != (api.Diag{E: api.ErrArg, At: more[121].At}) {
			t.Error(last, d)
		}
		more[121].Kind = api.DcData
		if d := resolveAsModel(t, more, api.Sig{}); d != (api.Diag{E: api.ErrLong, At: more[122].At}) {
			t.Error(last, d)
		}
		more[117].E.Kind = 0
		if d := resolveAsModel(t, more, api.Sig{}); d != (api.Diag{E: api.ErrArg, At: more[117].E.At}) {
			t.Error(last, d)
		}
	}
}

// binder is an expression that binds one variable, around x; at is its place.
func binder(kind int, at api.Pos, x api.Expr) api.Expr {
	leaf := api.Expr{Kind: api.ExInt}
	switch kind {
	case 0:
		return api.Expr{Kind: api.ExLam, S: "x", At: at, L: []api.Expr{x}}
	case 1:
		return api.Expr{Kind: api.ExLet, S: "x", At: at, L: []api.Expr{leaf, x}}
	case 2:
		return api.Expr{Kind: api.ExLet, S: "x", At: at, L: []api.Expr{x, leaf}}
	}
	return api.Expr{Kind: api.ExCase, L: []api.Expr{leaf}, Arms: []api.Arm{{P: api.Pat{Kind: api.PtName, S: "x", At: at}, E: x}}}
}

// TestP142MaxVars: as many variables as there may be, and more.
func TestP142MaxVars(t *testing.T) {
	t.Parallel()
	at := api.Pos{At: 77}
	lam := binder(0, api.Pos{}, api.Expr{Kind: api.ExInt})
	last := []api.Expr{
		lam, // one more that is no fault
		binder(0, at, api.Expr{}), binder(1, at, api.Expr{}), binder(2, at, api.Expr{}), binder(3, at, api.Expr{}),
		{Kind: api.ExRec, S: "x", At: at, L: []api.Expr{lam, {}}},
		{Kind: api.ExRec, S: "x", At: at, L: []api.Expr{{}, {}}},
		{Kind: api.ExCase, L: []api.Expr{{Kind: api.ExInt}}, Arms: []api.Arm{{P: api.Pat{Kind: api.PtCon, S: "P", L: []api.Pat{{Kind: api.PtName, S: "y"}, {Kind: api.PtName, S: "x", At: at}}}}}},
		{Kind: api.ExCase, L: []api.Expr{{Kind: api.ExInt}}, Arms: []api.Arm{{P: api.Pat{Kind: api.PtCon, S: "P", L: []api.Pat{{Kind: api.PtName, S: "x"}, {Kind: api.PtName, S: "x", At: at}}}}}},
	}
	wants := []api.Diag{{}, {E: api.ErrLong, At: at}, {E: api.ErrLong, At: at}, {E: api.ErrLong, At: at}, {E: api.ErrLong, At: at}, {E: api.ErrLong, At: at}, {E: api.ErrRec, At: at}, {E: api.ErrLong, At: at}, {E: api.ErrTwice, At: at}}
	ahead := []int{1, 0, 0, 0, 0, 0, 0, 1, 1}
	s := api.Sig{Cons: []api.Con{{Name: "P", Fields: make([]api.Type, 2)}}}
	for i, x := range last {
		for range api.MaxVars - ahead[i] - 2*(i%2) {
			x = binder(i%4, api.Pos{}, x)
		}
		// Two more of another declaration.
		l := []api.Decl{{Kind: api.DcLet, Name: "f", E: x}}
		if i%2 == 1 {
			l = slices.Insert(l, 0, api.Decl{Kind: api.DcLet, Name: "g", E: binder(0, api.Pos{}, lam)})
		}
		p, d := Resolve(l, s)
		if d != wants[i] || d.E == api.OK && (p.Vars != api.MaxVars || May(p) != api.ErrArg) {
			t.Error(i, d, p.Vars)
		}
		p.Sig = api.Sig{}
		if d.E == api.OK && May(p) != api.OK {
			t.Error(i)
		}
	}
}

// written is an expression at random, in which these names are bound; wrong is about how many things there are ahead of one that may be wrong.
func (d *dice) written(names []string, deep, wrong int) api.Expr {
	x := api.Expr{Kind: uint8(1 + d.below(10)), N: int64(d.below(9)), S: one(d, "x", "y", "z", "f")}
	if deep < 1 {
		x.Kind = one(d, api.ExName, api.ExName, api.ExInt, api.ExStr)
	}
	kids := 0
	switch x.Kind {
	case api.ExName:
		x.S = one(d, append([]string{"a", "f"}, names...)...)
	case api.ExLam:
		kids = 1
		names = append(slices.Clone(names), x.S)
	case api.ExApp:
		kids = 2
	case api.ExLet, api.ExRec:
		kids = 2
		names = append(slices.Clone(names), x.S)
	case api.ExCase:
		kids = 1
		for range 1 + d.below(3) - d.below(wrong)/(wrong-1) {
			bound := slices.Clone(names)
			p := d.pattern(&bound, 1+d.below(3), wrong)
			x.Arms = append(x.Arms, api.Arm{P: p, E: d.written(bound, deep-1, wrong)})
		}
	case api.ExCon:
		x.S, kids = d.made()
	case api.ExPrim:
		n := 1 + d.below(18)
		x.S, kids = signs()[n], takes()[n]
	}
	if d.below(wrong) == 0 {
		x.Kind = uint8(d.below(12))
	}
	if d.below(wrong) == 0 {
		x.S = one(d, "", "q", "x", "Nil", "A", "+", "a")
	}
	if d.below(wrong) == 0 {
		kids += d.below(3) - 1
	}
	for i := range kids {
		kid := d.written(names, deep-1, wrong)
		if x.Kind == api.ExRec && i == 0 && d.below(wrong) != 0 {
			kid = api.Expr{Kind: api.ExLam, S: one(d, "x", "y", "w"), L: []api.Expr{kid}}
		}
		x.L = append(x.L, kid)
	}
	return x
}

// made is a constructor of baseData, and how many fields it has.
func (d *dice) made() (string, int) {
	n := d.below(5)
	return []string{"Nil", "Cons", "Pair", "A", "B"}[n], []int{0, 2, 2, 2, 0}[n]
}

func (d *dice) pattern(names *[]string, deep, wrong int) api.Pat {
	p := api.Pat{Kind: uint8(1 + d.below(5)), N: int64(d.below(9)), S: one(d, "s", "t")}
	if p.Kind == api.PtCon && deep < 1 {
		p.Kind = api.PtName
	}
	kids := 0
	switch p.Kind {
	case api.PtName:
		p.S = one(d, "x", "y", "z", "f", "u", "v")
		if !slices.Contains(*names, p.S) || d.below(wrong) == 0 {
			*names = append(*names, p.S)
		} else {
			p.Kind = api.PtAny
		}
	case api.PtCon:
		p.S, kids = d.made()
	}
	if d.below(wrong) == 0 {
		p.Kind = uint8(d.below(7))
	}
	if d.below(wrong) == 0 {
		kids += d.below(3) - 1
	}
	for range kids {
		p.L = append(p.L, d.pattern(names, deep-1, wrong))
	}
	return p
}

// sown is declarations at random.
func (d *dice) sown(wrong int) []api.Decl {
	var l []api.Decl
	for i := range d.below(5) {
		x := api.Decl{Kind: api.DcLet, Name: one(d, "a", "f", "g", "x"), Rec: d.below(2) == 0}
		if d.below(wrong) != 0 {
			x.Name = []string{"a", "f", "g", "h", "i"}[i]
		}
		if d.below(5) == 0 {
			x.Kind = api.DcData
		}
		if d.below(wrong) == 0 {
			x.Kind = uint8(d.below(4))
		}
		x.E = d.written(nil, 1+d.below(5), wrong)
		if x.Rec && d.below(wrong) != 0 {
			x.E = api.Expr{Kind: api.ExLam, S: "x", L: []api.Expr{x.E}}
		}
		l = append(l, x)
	}
	return placed(l)
}

// TestP142Sown: many declarations at random, against the model.
func TestP142Sown(t *testing.T) {
	t.Parallel()
	d, s := &dice{}, sigOf(baseText)
	told := map[api.Errno]int{}
	for i := range 30000 {
		l := d.sown([]int{8, 30, 100, 1000}[i%4])
		if len(fmt.Sprint(l)) > 20000 {
			continue // the model is slow
		}
		told[resolveAsModel(t, l, s).E]++
	}
	for _, e := range []api.Errno{api.OK, api.ErrArg, api.ErrTwice, api.ErrUnknown, api.ErrArity, api.ErrRec} {
		if told[e] < 100 {
			t.Error(e, told)
		}
	}
}
