package cover

import (
	"fmt"
	"math"
	"reflect"
	"slices"
	"testing"

	"usufruct/api"
	"usufruct/core"
	"usufruct/data"
	"usufruct/parse"
)

// arms is the patterns of a case with these arms.
func arms(text string, pats ...string) (api.Sig, []api.CPat) {
	text += " let f = case 1 of {"
	for i, p := range pats {
		if i > 0 {
			text += "; "
		}
		text += p + " -> 0"
	}
	decls, d := parse.Parse(text + "}")
	if d.E != api.OK {
		panic(fmt.Sprint(text, d))
	}
	g, d := data.Check(decls)
	if d.E != api.OK {
		panic(fmt.Sprint(text, d))
	}
	prog, d := core.Resolve(decls, g)
	if d.E != api.OK {
		panic(fmt.Sprint(text, d))
	}
	var l []api.CPat
	for _, a := range prog.Tops[0].E.Arms {
		l = append(l, a.P)
	}
	return g, l
}

// isWitness says whether w is a witness of l.
func isWitness(g api.Sig, l []api.CPat, w api.CPat) bool {
	right := modelTogether(g, append(slices.Clone(l), w))
	each(reflect.ValueOf(w), func(v reflect.Value) {
		if p, ok := v.Interface().(api.CPat); ok && (p.Kind == api.PtName || p.At != api.Pos{}) {
			right = false
		}
	})
	for _, p := range l {
		if _, ok := modelBoth(p, w); ok {
			right = false
		}
	}
	return right
}

// TestP154Examples: those of the chapter.
func TestP154Examples(t *testing.T) {
	if w, n, e := Check(baseSig(), nil); e != api.ErrMissing || n != 0 || !reflect.DeepEqual(w, pAny()) {
		t.Error(w, n, e)
	}
	for _, c := range []struct {
		pats []string
		n    int
		e    api.Errno
		w    string
	}{
		{[]string{"x"}, 0, api.OK, ""},
		{[]string{"x", "True"}, 1, api.ErrUseless, ""},
		{[]string{"Nil", "Cons 1 _"}, 0, api.ErrMissing, "C5 (0) (_)"},
		{[]string{"Nil", "Cons _ Nil", "Cons _ (Cons _ _)", "Cons 1 _"}, 3, api.ErrUseless, ""},
		{[]string{"True", "Nil"}, 0, api.ErrArg, ""},
	} {
		g, l := arms("", c.pats...)
		w, n, e := Check(g, l)
		if n != c.n || e != c.e || e == api.ErrMissing && saidPat(w) != c.w || e != api.ErrMissing && !reflect.DeepEqual(w, api.CPat{}) {
			t.Error(c.pats, saidPat(w), n, e)
		}
	}
	if _, _, e := Check(data.Given(), list(pCon(api.CnCons, pAny()))); e != api.ErrArg {
		t.Error(e)
	}
}

// TestP154Hand: by hand; w is the witness that is told, where there is but one way to tell it, or one that is as good.
func TestP154Hand(t *testing.T) {
	const text = "data T = A | B | C 1 Int data U = U 1 Int 1 Str data V = V 1 Bool 1 Bool 1 Bool "
	for _, c := range []struct {
		pats []string
		n    int
		e    api.Errno
		w    string
	}{
		{[]string{"_"}, 0, api.OK, ""},
		{[]string{"x", "y"}, 1, api.ErrUseless, ""},
		{[]string{"True"}, 0, api.ErrMissing, "C0"},
		{[]string{"False"}, 0, api.ErrMissing, "C1"},
		{[]string{"True", "False"}, 0, api.OK, ""},
		{[]string{"True", "True", "False"}, 1, api.ErrUseless, ""},
		{[]string{"True", "False", "_"}, 2, api.ErrUseless, ""},
		{[]string{"True", "_", "False", "_"}, 2, api.ErrUseless, ""},
		{[]string{"True", "True"}, 0, api.ErrMissing, "C0"},
		{[]string{"Unit"}, 0, api.OK, ""},
		{[]string{"Unit", "_"}, 1, api.ErrUseless, ""},
		{[]string{"_", "Unit"}, 1, api.ErrUseless, ""},
		{[]string{"0"}, 0, api.ErrMissing, "1"},
		{[]string{"1", "3", "0"}, 0, api.ErrMissing, "2"},
		{[]string{"5"}, 0, api.ErrMissing, "0"},
		{[]string{"0", "_"}, 0, api.OK, ""},
		{[]string{"0", "1", "0", "_"}, 2, api.ErrUseless, ""},
		{[]string{`""`}, 0, api.ErrMissing, `"0"`},
		{[]string{`"a"`}, 0, api.ErrMissing, `""`},
		{[]string{`"a"`, `"b"`, "x"}, 0, api.OK, ""},
		{[]string{`"a"`, `"b"`, `"a"`, "x"}, 2, api.ErrUseless, ""},
		{[]string{"A", "B"}, 0, api.ErrMissing, "C17 (_)"},
		{[]string{"A", "C _"}, 0, api.ErrMissing, "C16"},
		{[]string{"A", "C 1", "B"}, 0, api.ErrMissing, "C17 (0)"},
		{[]string{"A", "C 1", "B", "C 0", "C x"}, 0, api.OK, ""},
		{[]string{"A", "C x", "B", "C 0"}, 3, api.ErrUseless, ""},
		{[]string{"U 1 _", `U _ ""`}, 0, api.ErrMissing, `C18 (0) ("0")`},
		{[]string{"U 1 _", `U _ ""`, `U 1 ""`}, 0, api.ErrMissing, `C18 (0) ("0")`},
		{[]string{"U 1 _", `U _ ""`, `U 1 ""`, "_"}, 2, api.ErrUseless, ""},
		{[]string{"U x _"}, 0, api.OK, ""},
		{[]string{"U x _", "y"}, 1, api.ErrUseless, ""},
		{[]string{"Pair True _", "Pair _ True", "Pair False False"}, 0, api.OK, ""},
		{[]string{"Pair True _", "Pair _ True", "Pair True True"}, 0, api.ErrMissing, "C3 (C0) (C0)"},
		{[]string{"Pair True _", "Pair _ True", "Pair True True", "_"}, 2, api.ErrUseless, ""},
		{[]string{"Pair True _", "Pair False True", "Pair _ True", "_"}, 2, api.ErrUseless, ""},
		{[]string{"Pair True _", "Pair False True", "Pair _ False", "_"}, 3, api.ErrUseless, ""},
		{[]string{"Pair (Pair 1 _) _", "Pair (Pair _ 2) _"}, 0, api.ErrMissing, "C3 (C3 (0) (0)) (_)"},
		{[]string{"Pair _ Nil", "Pair _ (Cons (Pair _ True) _)"}, 0, api.ErrMissing, "C3 (_) (C5 (C3 (_) (C0)) (_))"},
		{[]string{"V True _ _", "V _ True _", "V _ _ True"}, 0, api.ErrMissing, "C19 (C0) (C0) (C0)"},
		{[]string{"V True False _", "V _ True False", "V False _ True"}, 0, api.ErrMissing, ""},
		{[]string{"V True False _", "V _ True False", "V False _ True", "V True True True", "V False False False"}, 0, api.OK, ""},
		{[]string{"V True False _", "V _ True False", "V False _ True", "V True True True", "V False False False", "V True _ False"}, 5, api.ErrUseless, ""},
		{[]string{"Nil", "Cons _ Nil", "Cons _ (Cons _ Nil)"}, 0, api.ErrMissing, "C5 (_) (C5 (_) (C5 (_) (_)))"},
	} {
		g, l := arms(text, c.pats...)
		w, n, e := Check(g, l)
		if n != c.n || e != c.e || c.w != "" && saidPat(w) != c.w || e != api.ErrMissing && !reflect.DeepEqual(w, api.CPat{}) || e == api.ErrMissing && !isWitness(g, l, w) {
			t.Error(c.pats, saidPat(w), n, e)
		}
	}
}

// asModel holds Check and Covers against the model; false, if there are too many values, or something is wrong.
func asModel(t *testing.T, g api.Sig, l []api.CPat) (api.Errno, bool) {
	t.Helper()
	values, ok := modelValues(g, l, 3000)
	if !ok {
		return api.OK, false
	}
	w, n, e := Check(g, l)
	wantN, want := modelCheck(l, values)
	if n != wantN || e != want {
		t.Errorf("%v: %s: %d %v, not %d %v", g.Datas, said(l...), n, e, wantN, want)
		return e, false
	}
	if e == api.ErrMissing && !isWitness(g, l, w) || e != api.ErrMissing && !reflect.DeepEqual(w, api.CPat{}) {
		t.Errorf("%v: %s: %s", g.Datas, said(l...), saidPat(w))
		return e, false
	}
	for i, p := range l {
		rest := slices.Delete(slices.Clone(l), i, i+1)
		got, x := Covers(g, rest, p)
		want := !slices.ContainsFunc(values, func(v api.Val) bool { return modelFits(p, v) && !fitsOne(rest, v) })
		if got != want || x != api.OK {
			t.Errorf("%v: %s covers %s: %v %v", g.Datas, said(rest...), saidPat(p), got, x)
			return e, false
		}
	}
	return e, true
}

// TestP154Sown: lists that are sown.
func TestP154Sown(t *testing.T) {
	t.Parallel()
	d := &dice{n: 7}
	n := map[api.Errno]int{}
	for range 60000 {
		g, l := d.sown()
		was := clone(l)
		if e, ok := asModel(t, g, l); ok {
			n[e]++
		} else if t.Failed() {
			return
		}
		if !alike(l, was) {
			t.Fatal(said(was...))
		}
	}
	if n[api.OK] < 1000 || n[api.ErrMissing] < 1000 || n[api.ErrUseless] < 1000 {
		t.Error(n)
	}
}

// split is a list of patterns that is all that is needed, and each of it is: it is made by splitting where a pattern asks nothing.
func (d *dice) split(g api.Sig, n int) []api.CPat {
	l := list(pAny())
	for range n {
		i := d.below(len(l))
		p := clone(l[i])
		var free []reflect.Value
		each(reflect.ValueOf(&p).Elem(), func(v reflect.Value) {
			if v.Type() == reflect.TypeOf(p) && v.Interface().(api.CPat).Kind == api.PtAny {
				free = append(free, v)
			}
		})
		if len(free) == 0 {
			continue
		}
		at := one(d, free...)
		var r []api.CPat
		for _, c := range g.Datas[d.below(len(g.Datas))].Cons {
			at.Set(reflect.ValueOf(pCon(c, slices.Repeat(list(pAny()), len(g.Cons[c].Fields))...)))
			r = append(r, clone(p))
		}
		next := slices.Concat(l[:i], r, l[i+1:])
		if modelTogether(g, next) {
			l = next
		}
	}
	for i := range l {
		k := d.below(i + 1)
		l[i], l[k] = l[k], l[i]
	}
	return l
}

// TestP154Split: lists that are all that is needed; without one of it something is missing, with one more that is useless.
func TestP154Split(t *testing.T) {
	t.Parallel()
	d := &dice{n: 9}
	g := sigOf([]int{0, 0}, []int{0, 2}, []int{2}, []int{0, 1, 3})
	for range 400 {
		l := d.split(g, 1+d.below(14))
		if w, n, e := Check(g, l); n != 0 || e != api.OK || !alike(w, api.CPat{}) {
			t.Fatal(said(l...), saidPat(w), n, e)
		}
		i := d.below(len(l))
		if w, n, e := Check(g, slices.Delete(slices.Clone(l), i, i+1)); n != 0 || e != api.ErrMissing || !isWitness(g, slices.Delete(slices.Clone(l), i, i+1), w) || Apart(w, l[i]) {
			t.Fatal(said(l...), i, saidPat(w), n, e)
		}
		k := i + 1 + d.below(len(l)-i)
		if w, n, e := Check(g, slices.Insert(slices.Clone(l), k, l[i])); n != k || e != api.ErrUseless || !alike(w, api.CPat{}) {
			t.Fatal(said(l...), i, k, saidPat(w), n, e)
		}
	}
}

// TestP154Limits: numbers and texts at their limits.
func TestP154Limits(t *testing.T) {
	g := baseSig()
	long := string(make([]byte, api.MaxStr))
	ints := list(pInt(math.MinInt64), pInt(math.MaxInt64), pInt(api.MaxInt), pInt(-1), pInt(0), pInt(1))
	strs := list(pStr(""), pStr(long), pStr(long[1:]), pStr("\xff"), pStr("0"), pStr("1"), pStr("2"))
	for _, l := range [][]api.CPat{ints, strs} {
		w, n, e := Check(g, l)
		if n != 0 || e != api.ErrMissing || !isWitness(g, l, w) || w.Kind != l[0].Kind {
			t.Error(saidPat(w), n, e)
		}
		if w, n, e := Check(g, append(slices.Clone(l), pAny())); n != 0 || e != api.OK || !alike(w, api.CPat{}) {
			t.Error(saidPat(w), n, e)
		}
		for i, p := range l {
			if w, n, e := Check(g, append(slices.Clone(l), p, pAny())); n != len(l) || e != api.ErrUseless || !alike(w, api.CPat{}) {
				t.Error(saidPat(w), n, e)
			}
			rest := slices.Delete(slices.Clone(l), i, i+1)
			if ok, e := Covers(g, rest, p); ok || e != api.OK {
				t.Error(said(rest...), saidPat(p))
			}
			if ok, e := Covers(g, l, p); !ok || e != api.OK {
				t.Error(saidPat(p))
			}
			if ok, e := Covers(g, append(rest, pAny()), p); !ok || e != api.OK {
				t.Error(saidPat(p))
			}
		}
	}
}

// TestP153Covers: by hand.
func TestP153Covers(t *testing.T) {
	g := baseSig()
	for _, c := range []struct {
		l    []api.CPat
		p    api.CPat
		want bool
		e    api.Errno
	}{
		{nil, pAny(), false, api.OK},
		{nil, pInt(1), false, api.OK},
		{nil, pairOf(pAny(), pAny()), false, api.OK},
		{list(pName(1)), pAny(), true, api.OK},
		{list(pAny()), pInt(1), true, api.OK},
		{list(pInt(1)), pInt(1), true, api.OK},
		{list(pInt(1)), pInt(2), false, api.OK},
		{list(pInt(1)), pName(1), false, api.OK},
		{list(pInt(1)), pStr(""), false, api.ErrArg},
		{list(pInt(1)), api.CPat{}, false, api.ErrArg},
		{list(api.CPat{}), pAny(), false, api.ErrArg},
		{list(pInt(1), pStr("")), pAny(), false, api.ErrArg},
		{list(pairOf(pAny(), pName(1))), pAny(), true, api.OK},
		{list(pairOf(pInt(1), pAny())), pairOf(pStr(""), pAny()), false, api.ErrArg},
		{list(pairOf(pInt(1), pAny())), pairOf(pInt(1), pStr("")), true, api.OK},
		{list(pairOf(pInt(1), pAny())), pairOf(pName(1), pStr("")), false, api.OK},
		{list(pCon(cFalse), pCon(cTrue)), pAny(), true, api.OK},
		{list(pCon(cFalse)), pAny(), false, api.OK},
		{list(pairOf(pCon(cFalse), pAny()), pairOf(pAny(), pCon(cTrue))), pairOf(pAny(), pCon(cTrue)), true, api.OK},
		{list(pairOf(pCon(cFalse), pAny()), pairOf(pCon(cTrue), pCon(cTrue))), pairOf(pAny(), pCon(cTrue)), true, api.OK},
		{list(pairOf(pCon(cFalse), pAny()), pairOf(pCon(cTrue), pCon(cTrue))), pairOf(pAny(), pCon(cFalse)), false, api.OK},
		{list(consOf(pAny(), pAny()), pCon(cNil)), pAny(), true, api.OK},
		{list(consOf(pAny(), pCon(cNil)), pCon(cNil)), consOf(pInt(1), pAny()), false, api.OK},
		{list(consOf(pAny(), pCon(cNil)), pCon(cNil)), consOf(pInt(1), pCon(cNil)), true, api.OK},
	} {
		if got, e := Covers(g, c.l, c.p); got != c.want || e != c.e {
			t.Error(said(c.l...), saidPat(c.p), got, e)
		}
	}
}
