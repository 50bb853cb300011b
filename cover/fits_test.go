package cover

import (
	"math"
	"reflect"
	"testing"

	"usufruct/api"
)

// patterns of each kind, and of kinds that are none, alone and within others.
func somePats() []api.CPat {
	l := []api.CPat{{}, {Kind: 6}, {Kind: api.VCon}, {Kind: 255, L: list(pAny())}, pAny(), pName(0), pName(-5),
		{Kind: api.PtName, L: list(api.CPat{})}, {Kind: api.PtAny, N: 1, I: 2, S: "x", L: list(pInt(1))},
		pInt(0), pInt(1), pInt(-1), pInt(math.MinInt64), pInt(math.MaxInt64), {Kind: api.PtInt, N: 1, S: "x", L: list(api.CPat{})},
		pStr(""), pStr("x"), pStr("\xff"), {Kind: api.PtStr, S: "x", N: 1, I: 1, L: list(pInt(1))}}
	for _, n := range []int{0, 1, 2, -1, math.MinInt, math.MaxInt, 1 << 40} {
		l = append(l, pCon(n))
	}
	for _, p := range l {
		l = append(l, pCon(1, p), pCon(2, p))
	}
	for _, p := range l[:20] {
		l = append(l, pCon(1, p, pAny()), pCon(1, pInt(0), p), pCon(1, pCon(2, p), pName(1)))
	}
	return append(l, pCon(1, pAny(), pAny(), pAny()), pCon(1, pAny(), pInt(1), pAny()), api.CPat{Kind: api.PtCon, N: 1, I: 5, S: "y"})
}

// values of each kind, and of kinds that are none, alone and within others.
func someVals() []api.Val {
	var l []api.Val
	for k := range 16 {
		for _, n := range []int64{0, 1, 2, -1} {
			for _, s := range []string{"", "x"} {
				l = append(l, api.Val{Kind: uint8(k), N: n, S: s})
			}
		}
	}
	for k := range 16 {
		l = append(l, api.Val{Kind: uint8(k), N: 1, L: []api.Val{vInt(1)}}, api.Val{Kind: uint8(k), N: 1, S: "x", L: []api.Val{vStr("x"), wCon(1)}},
			vCon(1, api.Val{Kind: uint8(k), N: 1}), vCon(2, api.Val{Kind: uint8(k), S: "x"}), vCon(1, vInt(0), api.Val{Kind: uint8(k), N: -1}),
			vCon(1, vCon(2, api.Val{Kind: uint8(k), N: 1, S: "x"}), wCon(0)))
	}
	l = append(l, vInt(math.MinInt64), vInt(math.MaxInt64), vStr("\xff"), wCon(math.MaxInt64), vCon(math.MinInt64), wCon(1<<40), vCon(1, vInt(1), vInt(1), vInt(1)))
	return append(l, vCon(1, wCon(0)), vCon(1, vCon(0)), vCon(1, vCon(0, vInt(1))), api.Val{Kind: api.WCon, N: 1, L: []api.Val{}}, api.Val{Kind: 255})
}

// TestP151Kinds: each pattern against each value.
func TestP151Kinds(t *testing.T) {
	fit := 0
	for _, p := range somePats() {
		for _, v := range someVals() {
			want := modelFits(p, v)
			if got := Fits(p, v); got != want {
				t.Fatal(saidPat(p), v, got)
			}
			if want {
				fit++
			}
		}
	}
	if fit < 1000 {
		t.Error(fit)
	}
}

// TestP151Hand: by hand.
func TestP151Hand(t *testing.T) {
	for _, c := range []struct {
		p    api.CPat
		v    api.Val
		want bool
	}{
		{pAny(), api.Val{}, true},
		{pName(3), api.Val{Kind: 255}, true},
		{pInt(3), vInt(3), true},
		{pInt(3), vInt(4), false},
		{pInt(3), vStr(""), false},
		{pInt(3), api.Val{Kind: api.WInt, N: 3, S: "x", L: []api.Val{{}}}, true},
		{pInt(3), wCon(3), false},
		{pInt(3), api.Val{Kind: api.WFile, N: 3}, false},
		{pStr("a"), vStr("a"), true},
		{pStr("a"), vStr("b"), false},
		{pStr(""), vInt(0), false},
		{pCon(4), wCon(4), true},
		{pCon(4), vCon(4), true},
		{pCon(4), wCon(5), false},
		{pCon(4), vCon(5), false},
		{pCon(4), api.Val{Kind: api.WCon, N: 4, L: []api.Val{vInt(1)}}, false},
		{pCon(4, pAny()), api.Val{Kind: api.WCon, N: 4, L: []api.Val{vInt(1)}}, false},
		{pCon(4, pAny()), vCon(4, vInt(1)), true},
		{pCon(4, pAny()), vCon(4), false},
		{pCon(4, pAny()), vCon(4, vInt(1), vInt(2)), false},
		{pCon(4), vCon(4, vInt(1)), false},
		{pCon(4, pInt(1), pAny()), vCon(4, vInt(1), vInt(2)), true},
		{pCon(4, pInt(1), pInt(2)), vCon(4, vInt(1), vInt(2)), true},
		{pCon(4, pInt(1), pInt(2)), vCon(4, vInt(2), vInt(2)), false},
		{pCon(4, pInt(1), pInt(2)), vCon(4, vInt(1), vInt(1)), false},
		{pCon(4, pCon(5, pInt(7))), vCon(4, vCon(5, vInt(7))), true},
		{pCon(4, pCon(5, pInt(7))), vCon(4, vCon(5, vInt(8))), false},
		{pCon(4, api.CPat{}), vCon(4, api.Val{}), false},
		{api.CPat{}, api.Val{}, false},
		{api.CPat{Kind: 6}, vInt(0), false},
		{pCon(4), api.Val{Kind: api.VFun, N: 4}, false},
		{pCon(4), api.Val{Kind: api.VArr, N: 4}, false},
	} {
		if got := Fits(c.p, c.v); got != c.want || modelFits(c.p, c.v) != c.want {
			t.Error(saidPat(c.p), c.v, got)
		}
	}
}

// TestP152Kinds: each two patterns.
func TestP152Kinds(t *testing.T) {
	l, vals := somePats(), someVals()
	far, near := 0, 0
	for _, p := range l {
		for _, q := range l {
			v, ok := modelBoth(p, q)
			if ok && !(modelFits(p, v) && modelFits(q, v)) {
				t.Fatal("model", saidPat(p), saidPat(q), v)
			}
			if Apart(p, q) == ok || Apart(q, p) == ok {
				t.Fatal(saidPat(p), saidPat(q), ok)
			}
			if ok {
				near++
				continue
			}
			far++
			for _, v := range vals {
				if modelFits(p, v) && modelFits(q, v) {
					t.Fatal(saidPat(p), saidPat(q), v)
				}
			}
		}
	}
	if far < 1000 || near < 1000 {
		t.Error(far, near)
	}
}

// TestP152Hand: by hand.
func TestP152Hand(t *testing.T) {
	for _, c := range []struct {
		p, q api.CPat
		want bool
	}{
		{pAny(), pName(1), false},
		{pAny(), pInt(1), false},
		{pInt(1), pInt(1), false},
		{pInt(1), pInt(2), true},
		{pStr("1"), pInt(1), true},
		{pStr(""), pInt(0), true},
		{pStr("a"), pStr("a"), false},
		{pStr("a"), pStr("b"), true},
		{pCon(0), pInt(0), true},
		{pCon(1), pCon(1), false},
		{pCon(1), pCon(2), true},
		{pCon(1, pAny()), pCon(1), true},
		{pCon(1, pAny()), pCon(1, pAny(), pAny()), true},
		{pCon(1, pAny(), pInt(1)), pCon(1, pInt(1), pAny()), false},
		{pCon(1, pAny(), pInt(1)), pCon(1, pInt(1), pInt(2)), true},
		{pCon(1, pInt(2), pInt(1)), pCon(1, pInt(1), pInt(1)), true},
		{pCon(1, pCon(2, pInt(1))), pCon(1, pCon(2, pInt(2))), true},
		{pCon(1, pCon(2, pInt(1))), pCon(1, pCon(2, pName(2))), false},
		{api.CPat{}, pAny(), true},
		{api.CPat{}, api.CPat{}, true},
		{pName(1), api.CPat{Kind: 6}, true},
		{pAny(), pCon(1, api.CPat{}), true},
		{pAny(), pCon(1, pInt(1), pCon(2, api.CPat{Kind: 9})), true},
		{pCon(1, api.CPat{}), pCon(1, api.CPat{}), true},
		{pInt(1), api.CPat{Kind: api.PtInt, I: 1, L: list(api.CPat{})}, false},
		{pAny(), api.CPat{Kind: api.PtName, L: list(api.CPat{})}, false},
	} {
		if Apart(c.p, c.q) != c.want || Apart(c.q, c.p) != c.want {
			t.Error(saidPat(c.p), saidPat(c.q))
		}
	}
}

// TestP152Sown: patterns that are sown, also with a place that is something else.
func TestP152Sown(t *testing.T) {
	d := &dice{n: 3}
	far := 0
	for range 20000 {
		g, l := d.sown()
		if len(l) < 2 {
			continue
		}
		p, q := l[0], clone(l[1])
		if d.below(3) == 0 {
			n := d.below(4)
			each(reflect.ValueOf(&q).Elem(), func(v reflect.Value) {
				if v.Type() == reflect.TypeOf(api.CPat{}) {
					if n--; n == 0 {
						v.Set(reflect.ValueOf(one(d, api.CPat{}, pCon(0), pInt(1), pCon(1, pAny()), pAny())))
					}
				}
			})
		}
		v, ok := modelBoth(p, q)
		if ok && !(Fits(p, v) && Fits(q, v)) {
			t.Fatal(saidPat(p), saidPat(q), v)
		}
		if Apart(p, q) == ok || Apart(q, p) == ok {
			t.Fatal(g, saidPat(p), saidPat(q), ok)
		}
		if !ok {
			far++
		}
	}
	if far < 2000 {
		t.Error(far)
	}
}
