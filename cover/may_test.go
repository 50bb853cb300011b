package cover

import (
	"math"
	"reflect"
	"slices"
	"testing"

	"usufruct/api"
)

// sameAll holds May, Covers and Check's ErrArg against the model.
func sameAll(t *testing.T, g api.Sig, l []api.CPat, what string) bool {
	t.Helper()
	want := modelMay(g, l)
	if got := May(g, l); got != want {
		t.Errorf("May %s: %v of %v, %s", what, got, g, said(l...))
		return false
	}
	w, n, e := Check(g, l)
	if (e == api.ErrArg) != (want == api.ErrArg) || e == api.ErrArg && !(n == 0 && reflect.DeepEqual(w, api.CPat{})) {
		t.Errorf("Check %s: %v, %d, %v of %v, %s", what, w, n, e, g, said(l...))
		return false
	}
	for i, p := range l {
		rest := slices.Delete(slices.Clone(l), i, i+1)
		ok, e := Covers(g, rest, p)
		if e != want || e == api.ErrArg && ok {
			t.Errorf("Covers %s: %v, %v of %v, %s, %s", what, ok, e, g, said(rest...), said(p))
			return false
		}
	}
	return true
}

// TestP153Serves: signatures that serve, and each way in which one does not, by hand.
func TestP153Serves(t *testing.T) {
	right := baseSig()
	for i, c := range []struct {
		change func(g *api.Sig)
		want   api.Errno
	}{
		{func(g *api.Sig) {}, api.OK},
		{func(g *api.Sig) { *g = api.Sig{} }, api.OK},
		{func(g *api.Sig) { g.Datas = append(g.Datas, api.Data{}) }, api.OK},
		{func(g *api.Sig) { slices.Reverse(g.Datas[3].Cons) }, api.OK},
		{func(g *api.Sig) {
			for i := range g.Datas {
				g.Datas[i].Name, g.Datas[i].Params = "T", -1
			}
			for i := range g.Cons {
				g.Cons[i].Name, g.Cons[i].Mults = "", nil
			}
		}, api.OK},
		{func(g *api.Sig) { g.Datas[1].Cons, g.Cons[0].Data = []int{0, 2, 3}, 1; g.Datas[0].Cons = []int{1} }, api.OK},
		{func(g *api.Sig) { g.Cons[0].Data = -1 }, api.ErrArg},
		{func(g *api.Sig) { g.Cons[0].Data = 4 }, api.ErrArg},
		{func(g *api.Sig) { g.Cons[0].Data = math.MaxInt }, api.ErrArg},
		{func(g *api.Sig) { g.Cons[0].Data = math.MinInt }, api.ErrArg},
		{func(g *api.Sig) { g.Cons[0].Data = 1 }, api.ErrArg},
		{func(g *api.Sig) { g.Datas[0].Cons = []int{1} }, api.ErrArg},
		{func(g *api.Sig) { g.Datas[0].Cons = nil }, api.ErrArg},
		{func(g *api.Sig) { g.Datas[0].Cons = []int{0, 1, 0} }, api.ErrArg},
		{func(g *api.Sig) { g.Datas[0].Cons = []int{0, 0} }, api.ErrArg},
		{func(g *api.Sig) { g.Datas[0].Cons = []int{0, 1, 2} }, api.ErrArg},
		{func(g *api.Sig) { g.Datas[0].Cons = []int{0, 2} }, api.ErrArg},
		{func(g *api.Sig) { g.Datas[0].Cons = []int{0, 1, -1} }, api.ErrArg},
		{func(g *api.Sig) { g.Datas[0].Cons = []int{0, 1, 8} }, api.ErrArg},
		{func(g *api.Sig) { g.Datas[0].Cons = []int{0, 1, math.MaxInt} }, api.ErrArg},
		{func(g *api.Sig) { g.Datas[0].Cons = []int{0, 1, math.MinInt} }, api.ErrArg},
		{func(g *api.Sig) { g.Datas = g.Datas[:3] }, api.ErrArg},
		{func(g *api.Sig) { g.Datas = nil }, api.ErrArg},
		{func(g *api.Sig) { g.Cons = g.Cons[:7] }, api.ErrArg},
		{func(g *api.Sig) { g.Cons = nil }, api.ErrArg},
		{func(g *api.Sig) { g.Cons = append(g.Cons, api.Con{Data: 0}) }, api.ErrArg},
	} {
		g := clone(right)
		c.change(&g)
		for _, l := range [][]api.CPat{nil, list(pAny()), list(pInt(1), pName(2))} {
			want := c.want
			if got := May(g, l); got != want || modelMay(g, l) != want {
				t.Error(i, got)
			}
			if ok, e := Covers(g, l, pAny()); e != want || ok != (want == api.OK && len(l) > 0) {
				t.Error(i, ok, e)
			}
			sameAll(t, g, l, "serves")
		}
	}
}

// TestP153Spoilt: each place of a signature and of a list that goes together being something else.
func TestP153Spoilt(t *testing.T) {
	t.Parallel()
	type both struct {
		G api.Sig
		L []api.CPat
	}
	for _, l := range [][]api.CPat{
		list(pairOf(pInt(1), pStr("x")), pairOf(pName(4), pAny()), pName(2), pairOf(pInt(-1), pStr(""))),
		list(consOf(pCon(cB, pInt(1)), pCon(cNil)), consOf(pName(7), consOf(pAny(), pCon(cNil))), pCon(cNil)),
		list(threeOf(pCon(cTrue), pAny(), pCon(cA)), pCon(cB, pCon(cFalse)), threeOf(pCon(cFalse), pInt(0), pCon(cB, pStr("y")))),
		list(pInt(0), pInt(1), pAny()),
		list(pStr("x"), pStr(""), pName(1)),
	} {
		x := both{baseSig(), l}
		right, n := 0, 0
		if modelMay(x.G, x.L) != api.OK {
			t.Fatal(said(l...))
		}
		spoil(reflect.ValueOf(&x).Elem(), func(where string) {
			n++
			if modelMay(x.G, x.L) == api.OK {
				right++
			}
			sameAll(t, x.G, x.L, where)
		})
		if right < 20 || n-right < 20 {
			t.Error(n, right)
		}
	}
}

// TestP153Together: patterns that go together, and each way in which a list does not, by hand.
func TestP153Together(t *testing.T) {
	g := baseSig()
	for _, c := range []struct {
		l    []api.CPat
		want api.Errno
	}{
		{nil, api.OK},
		{list(pAny()), api.OK},
		{list(pName(0), pName(0), pName(-1), pName(math.MaxInt), pName(math.MinInt)), api.OK},
		{list(pInt(math.MinInt64), pInt(math.MaxInt64), pName(1)), api.OK},
		{list(pStr("\xff"), pStr("")), api.OK},
		{list(pCon(cFalse), pCon(cTrue)), api.OK},
		{list(pCon(cTrue), pCon(cNil)), api.ErrArg},
		{list(pCon(cTrue), pAny(), pCon(cNil)), api.ErrArg},
		{list(pCon(cCons)), api.ErrArg},
		{list(pCon(cCons, pAny())), api.ErrArg},
		{list(pCon(cCons, pAny(), pAny())), api.OK},
		{list(pCon(cCons, pAny(), pAny(), pAny())), api.ErrArg},
		{list(pCon(cNil, pAny())), api.ErrArg},
		{list(pCon(-1)), api.ErrArg},
		{list(pCon(cC + 1)), api.ErrArg},
		{list(pCon(math.MaxInt)), api.ErrArg},
		{list(pCon(math.MinInt)), api.ErrArg},
		{list(pInt(0), pStr("")), api.ErrArg},
		{list(pInt(0), pCon(cFalse)), api.ErrArg},
		{list(pStr(""), pCon(cFalse)), api.ErrArg},
		{list(pStr(""), pAny(), pInt(0)), api.ErrArg},
		{list(api.CPat{}), api.ErrArg},
		{list(api.CPat{Kind: 6}), api.ErrArg},
		{list(api.CPat{Kind: 255}), api.ErrArg},
		{list(api.CPat{Kind: api.PtAny, N: 1}), api.ErrArg},
		{list(api.CPat{Kind: api.PtAny, I: 1}), api.ErrArg},
		{list(api.CPat{Kind: api.PtAny, S: "x"}), api.ErrArg},
		{list(api.CPat{Kind: api.PtAny, L: list(pAny())}), api.ErrArg},
		{list(api.CPat{Kind: api.PtAny, At: api.Pos{At: 1, Line: 2, Col: 3}, L: list()}), api.OK},
		{list(api.CPat{Kind: api.PtName, I: 1}), api.ErrArg},
		{list(api.CPat{Kind: api.PtName, S: "x"}), api.ErrArg},
		{list(api.CPat{Kind: api.PtName, L: list(pAny())}), api.ErrArg},
		{list(api.CPat{Kind: api.PtInt, N: 1}), api.ErrArg},
		{list(api.CPat{Kind: api.PtInt, S: "x"}), api.ErrArg},
		{list(api.CPat{Kind: api.PtInt, L: list(pAny())}), api.ErrArg},
		{list(api.CPat{Kind: api.PtStr, N: 1}), api.ErrArg},
		{list(api.CPat{Kind: api.PtStr, I: 1}), api.ErrArg},
		{list(api.CPat{Kind: api.PtStr, L: list(pAny())}), api.ErrArg},
		{list(api.CPat{Kind: api.PtCon, I: 1}), api.ErrArg},
		{list(api.CPat{Kind: api.PtCon, S: "x"}), api.ErrArg},
		{list(api.CPat{Kind: api.PtCon, At: api.Pos{At: -1}}, pCon(cTrue)), api.OK},
		{list(pairOf(pInt(1), pStr("")), pairOf(pInt(2), pName(1))), api.OK},
		{list(pairOf(pInt(1), pStr("")), pairOf(pStr(""), pName(1))), api.ErrArg},
		{list(pairOf(pInt(1), pStr("")), pairOf(pInt(1), pInt(1))), api.ErrArg},
		{list(pairOf(pInt(1), pStr("")), pAny(), pairOf(pCon(cA), pAny())), api.ErrArg},
		{list(pairOf(pAny(), api.CPat{Kind: 7})), api.ErrArg},
		{list(pairOf(consOf(pInt(1), pAny()), pAny()), pairOf(consOf(pAny(), pInt(1)), pAny())), api.OK},
		{list(pairOf(consOf(pInt(1), pAny()), pAny()), pairOf(consOf(pStr(""), pInt(1)), pAny())), api.ErrArg},
		{list(pairOf(pCon(cB, pInt(1)), pAny()), pairOf(threeOf(pStr(""), pAny(), pAny()), pAny())), api.OK},
		{list(pairOf(pCon(cB, pInt(1)), pCon(cB, pStr("")))), api.OK},
		{list(consOf(pInt(1), consOf(pStr(""), pCon(cNil)))), api.OK},
		{list(consOf(pInt(1), consOf(pStr(""), pCon(cNil))), consOf(pAny(), consOf(pInt(1), pAny()))), api.ErrArg},
	} {
		if got := May(g, c.l); got != c.want || modelMay(g, c.l) != c.want {
			t.Error(said(c.l...), got)
		}
		sameAll(t, g, c.l, "together")
		r := slices.Clone(c.l)
		slices.Reverse(r)
		sameAll(t, g, r, "together, from behind")
	}
}

// TestP153SownMay: lists that are sown, with a pattern or one of its kids being something else.
func TestP153SownMay(t *testing.T) {
	t.Parallel()
	d := &dice{n: 5}
	var n [2]int
	for range 30000 {
		g, l := d.sown()
		if modelMay(g, l) != api.OK {
			t.Fatal(g, said(l...))
		}
		l = clone(l)
		k := d.below(8)
		each(reflect.ValueOf(&l).Elem(), func(v reflect.Value) {
			if v.Type() == reflect.TypeOf(api.CPat{}) {
				if k--; k == 0 {
					v.Set(reflect.ValueOf(one(d, api.CPat{}, pCon(0), pCon(d.below(7)), pInt(1), pCon(1, pAny()), pCon(d.below(7), pInt(0), pStr("")), pStr("x"), pName(9))))
				}
			}
		})
		if !sameAll(t, g, l, "sown") {
			return
		}
		if modelMay(g, l) == api.OK {
			n[0]++
		} else {
			n[1]++
		}
	}
	if n[0] < 1000 || n[1] < 1000 {
		t.Error(n)
	}
}
