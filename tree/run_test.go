package tree

import (
	"math"
	"reflect"
	"testing"

	"usufruct/api"
)

// runs says whether v's arm by t is n, or none.
func runs(t *testing.T, what string, tree api.Tree, v api.Val, n int, ok bool) {
	t.Helper()
	if got, is := Run(tree, v); got != n || is != ok {
		t.Errorf("%s: %d, %v of %v, %v", what, got, is, tree, v)
	}
	if got, is := modelRun(tree, v); got != n || is != ok {
		t.Errorf("%s: the model tells %d, %v of %v, %v", what, got, is, tree, v)
	}
}

// TestP162Run: each node, by hand.
func TestP162Run(t *testing.T) {
	v := vInt(5)
	runs(t, "an arm", arm(3), v, 3, true)
	runs(t, "an arm of anything", arm(3), api.Val{}, 3, true)
	runs(t, "the arm 0", arm(0), v, 0, true)
	runs(t, "an arm below 0", arm(-1), v, -1, true)
	runs(t, "the least arm", arm(math.MinInt), v, math.MinInt, true)
	runs(t, "the greatest arm", arm(math.MaxInt), v, math.MaxInt, true)
	runs(t, "no arm", none(), v, 0, false)
	runs(t, "no arm, with a number", api.Tree{Kind: api.TrNone, N: 4, Else: []api.Tree{arm(1)}}, v, 0, false)
	for _, kind := range []uint8{0, 4, 5, 255} {
		runs(t, "a kind that is none", api.Tree{Kind: kind, N: 4, Cases: cases(onInt(5, arm(1))), Else: []api.Tree{arm(2)}}, v, 0, false)
	}
	runs(t, "an arm with more", api.Tree{Kind: api.TrArm, N: 4, Path: path(7), Cases: cases(onInt(5, arm(1))), Else: []api.Tree{arm(2)}}, v, 4, true)
	l := cases(onInt(4, arm(0)), onInt(5, arm(1)), onInt(5, arm(2)), onStr("", arm(3)), onStr("x", arm(4)), onCon(5, arm(5)), onCon(0, arm(6)))
	for _, c := range []struct {
		v  api.Val
		n  int
		ok bool
	}{
		{vInt(5), 1, true}, {vInt(4), 0, true}, {vInt(-5), 0, false}, {vInt(0), 0, false}, {vStr("x"), 4, true}, {vStr(""), 3, true}, {vStr("5"), 0, false},
		{wCon(5), 5, true}, {wCon(0), 6, true}, {wCon(4), 0, false}, {vCon(5), 5, true}, {vCon(5, v), 5, true}, {vCon(0, v, v), 6, true}, {vCon(-1), 0, false},
		{api.Val{Kind: api.WCon, N: 5, L: []api.Val{v}}, 0, false}, {api.Val{Kind: api.WFun, N: 5}, 0, false}, {api.Val{Kind: api.VFun, N: 5}, 0, false},
		{api.Val{Kind: api.VArr, N: 5}, 0, false}, {api.Val{Kind: api.WFile, N: 5}, 0, false}, {api.Val{Kind: api.WIo, N: 5}, 0, false}, {api.Val{N: 5}, 0, false},
		{api.Val{Kind: api.WCell, N: 5}, 0, false}, {api.Val{Kind: 255, N: 5, S: "x"}, 0, false},
		{api.Val{Kind: api.WInt, N: 5, S: "x", L: []api.Val{v}}, 1, true}, {api.Val{Kind: api.WStr, N: 5, S: "x", L: []api.Val{v}}, 4, true},
		{api.Val{Kind: api.WCon, N: 5, S: "x"}, 5, true},
	} {
		runs(t, "cases", look(nil, l), c.v, c.n, c.ok)
		if !c.ok {
			c.n = 9
		}
		runs(t, "cases and else", look(nil, l, arm(9)), c.v, c.n, true)
		runs(t, "cases and two else", look(nil, l, arm(9), arm(8)), c.v, c.n, true)
		runs(t, "no case", look(nil, nil), c.v, 0, false)
		runs(t, "else alone", look(nil, nil, arm(2)), c.v, 2, true)
		runs(t, "else without an arm", look(nil, nil, none()), c.v, 0, false)
	}
	odd := cases(api.Branch{Kind: api.PtName, N: 5, T: arm(1)}, api.Branch{Kind: api.PtAny, I: 5, T: arm(2)}, api.Branch{T: arm(3)}, api.Branch{Kind: 255, N: 5, I: 5, T: arm(4)})
	for _, v := range []api.Val{vInt(5), vInt(0), vStr(""), wCon(5), {}, {Kind: api.WFile}, {Kind: 255, N: 5}} {
		runs(t, "cases whose kind is none", look(nil, odd), v, 0, false)
		runs(t, "cases whose kind is none, and else", look(nil, odd, arm(7)), v, 7, true)
	}
	more := cases(api.Branch{Kind: api.PtInt, N: 6, I: 5, S: "x", T: arm(1)}, api.Branch{Kind: api.PtStr, N: 6, I: 5, S: "x", T: arm(2)}, api.Branch{Kind: api.PtCon, N: 6, I: 5, S: "x", T: arm(3)})
	runs(t, "a number's case with more", look(nil, more), vInt(5), 1, true)
	runs(t, "a number's case with more", look(nil, more), vInt(6), 0, false)
	runs(t, "a text's case with more", look(nil, more), vStr("x"), 2, true)
	runs(t, "a constructor's case with more", look(nil, more), wCon(6), 3, true)
	runs(t, "a constructor's case with more", look(nil, more), wCon(5), 0, false)
	runs(t, "below 0", look(nil, cases(onCon(-1, arm(1)), onCon(math.MinInt, arm(2)), onInt(-1, arm(3)))), wCon(math.MinInt), 2, true)
	runs(t, "below 0", look(nil, cases(onCon(-1, arm(1)), onCon(math.MinInt, arm(2)), onInt(-1, arm(3)))), vInt(-1), 3, true)
}

// TestP162Places: places that are there, and that are not: else is for what is there.
func TestP162Places(t *testing.T) {
	v := vCon(3, vInt(7), vCon(3, vStr("x"), wCon(2)))
	l := cases(onInt(7, arm(1)), onStr("x", arm(2)), onCon(2, arm(3)), onCon(3, arm(4)))
	for _, c := range []struct {
		path []int
		n    int
		at   api.Val
	}{{nil, 4, v}, {path(), 4, v}, {path(0), 1, vInt(7)}, {path(1), 4, v.L[1]}, {path(1, 0), 2, vStr("x")}, {path(1, 1), 3, wCon(2)}} {
		runs(t, "there", look(c.path, l), v, c.n, true)
		if got, ok := At(v, c.path); !ok || !alike(got, c.at) {
			t.Error(c.path, got, ok)
		}
	}
	for _, p := range [][]int{path(2), path(-1), path(0, 0), path(1, 2), path(1, 1, 0), path(1, -1), path(-1, 0), path(2, 0), path(math.MinInt), path(math.MaxInt), path(1, math.MaxInt), path(1, 0, 0), path(1, 1, 1, 1)} {
		runs(t, "not there", look(p, l), v, 0, false)
		runs(t, "not there, and else", look(p, l, arm(5)), v, 0, false)
		runs(t, "not there, and a case of none", look(p, cases(api.Branch{T: arm(3)}), arm(5)), v, 0, false)
		if got, ok := At(v, p); ok || !reflect.DeepEqual(got, api.Val{}) {
			t.Error(p, got, ok)
		}
	}
	for _, kind := range []uint8{0, api.WInt, api.WStr, api.WFun, api.WCon, api.WCell, api.WFile, api.WIo, api.VFun, api.VArr, 255} {
		x := api.Val{Kind: kind, L: v.L}
		if got, ok := At(x, path(1, 0)); !ok || !alike(got, vStr("x")) {
			t.Error(kind, got, ok)
		}
		runs(t, "of any kind", look(path(1, 0), l), x, 2, true)
	}
}

// TestP162Any: any tree, any value.
func TestP162Any(t *testing.T) {
	t.Parallel()
	d := &dice{n: 162}
	yes, no := 0, 0
	for range 30000 {
		tree, p := d.tree(d.below(4)), d.path()
		for range 5 {
			v := d.val(d.below(4))
			n, ok := modelRun(tree, v)
			if got, is := Run(tree, v); got != n || is != ok {
				t.Fatalf("%d, %v, not %d, %v: %v of %v", got, is, n, ok, v, tree)
			}
			want, ok := modelAt(v, p)
			if got, is := At(v, p); is != ok || !reflect.DeepEqual(got, want) {
				t.Fatal(v, p, got, is)
			}
			if ok && len(p) > 1 {
				yes++
			} else if n != 0 {
				no++
			}
		}
	}
	if yes < 1000 || no < 10000 {
		t.Error(yes, no)
	}
}

// TestP162Spoilt: each place of a tree being something else.
func TestP162Spoilt(t *testing.T) {
	t.Parallel()
	g := baseSig()
	for _, l := range [][]api.CPat{
		list(pairOf(pInt(1), pStr("x")), pairOf(pName(4), pStr("")), pairOf(pInt(0), pAny())),
		list(pCon(cNil), consOf(pCon(cTrue), pCon(cNil)), consOf(pName(1), consOf(pCon(cFalse), pName(2)))),
	} {
		tree, e := Build(g, l)
		if e != api.OK {
			t.Fatal(e)
		}
		d := &dice{n: 5}
		var vals []api.Val
		for range 12 {
			vals = append(vals, d.fill(g, l))
		}
		first := tree
		right, n := 0, 0
		spoil(reflect.ValueOf(&first).Elem(), func(where string) {
			for _, v := range vals {
				want, ok := modelRun(first, v)
				if got, is := Run(first, v); got != want || is != ok {
					t.Fatal(where, got, is, v)
				}
				if arm, is := First(l, v); arm == want && is == ok {
					right++
				}
				n++
			}
		})
		if right < 500 || n-right < 50 {
			t.Error(right, n)
		}
	}
}

// TestP162First: the first pattern that fits, of any patterns.
func TestP162First(t *testing.T) {
	t.Parallel()
	for _, c := range []struct {
		l  []api.CPat
		v  api.Val
		n  int
		ok bool
	}{
		{nil, vInt(1), 0, false},
		{list(pAny()), api.Val{}, 0, true},
		{list(pName(-3), pAny()), vInt(1), 0, true},
		{list(pInt(0), pInt(1), pInt(1)), vInt(1), 1, true},
		{list(pInt(0), pStr("x"), pCon(4)), vStr("x"), 1, true},
		{list(pInt(0), pStr("x"), pCon(4)), wCon(4), 2, true},
		{list(pInt(0), pStr("x"), pCon(4)), vCon(4, vInt(1)), 0, false},
		{list(api.CPat{}, api.CPat{Kind: 255}, pCon(-1)), api.Val{Kind: 255}, 0, false},
		{list(api.CPat{}, api.CPat{Kind: 255}, pCon(-1)), vCon(-1), 2, true},
		{list(consOf(pInt(1), pAny()), consOf(pInt(2), pAny())), vCon(cCons, vInt(2), vInt(3)), 1, true},
		{list(consOf(pInt(1), pAny()), consOf(pInt(2), pAny())), vCon(cCons, vInt(3), vInt(3)), 0, false},
		{list(consOf(pInt(1), pAny()), pAny()), vCon(cCons, vInt(1)), 1, true},
	} {
		if n, ok := First(c.l, c.v); n != c.n || ok != c.ok {
			t.Error(said(c.l...), c.v, n, ok)
		}
	}
	d := &dice{n: 62}
	count := map[int]int{}
	for range 50000 {
		var l []api.CPat
		for range d.below(5) {
			l = append(l, d.pat(d.below(3)))
		}
		v := d.val(d.below(3))
		want, ok := modelFirst(l, v)
		if got, is := First(l, v); got != want || is != ok {
			t.Fatal(said(l...), v, got, is)
		}
		if !ok {
			want = -1
		}
		count[want]++
	}
	if count[-1] < 5000 || count[0] < 5000 || count[1] < 2000 || count[2] < 500 {
		t.Error(count)
	}
}

// TestP163: the names of a pattern.
func TestP163(t *testing.T) {
	t.Parallel()
	x, y, z := pName(9), pName(0), pName(-4)
	odd := api.CPat{Kind: api.PtName, N: 6, I: 7, S: "x", L: list(x, y)}
	for i, c := range []struct {
		p api.CPat
		l []api.Bind
	}{
		{x, []api.Bind{bind(9)}},
		{y, []api.Bind{bind(0)}},
		{pAny(), nil}, {pInt(3), nil}, {pStr("x"), nil}, {pCon(7), nil}, {api.CPat{}, nil}, {api.CPat{Kind: 6, N: 1}, nil}, {api.CPat{Kind: 255, N: 1}, nil},
		{pCon(-1, x, y, z), []api.Bind{bind(9, 0), bind(0, 1), bind(-4, 2)}},
		{pCon(3, x, x), []api.Bind{bind(9, 0), bind(9, 1)}},
		{pCon(3, pAny(), pCon(3, x, pAny()), y), []api.Bind{bind(9, 1, 0), bind(0, 2)}},
		{pCon(3, pCon(2, pCon(1, pCon(0, x), y), z), pInt(1), x), []api.Bind{bind(9, 0, 0, 0, 0), bind(0, 0, 0, 1), bind(-4, 0, 1), bind(9, 2)}},
		{odd, []api.Bind{bind(6)}},
		{pCon(1, odd, y), []api.Bind{bind(6, 0), bind(0, 1)}},
		{api.CPat{Kind: api.PtAny, L: list(x)}, nil}, {api.CPat{Kind: api.PtInt, L: list(x)}, nil}, {api.CPat{Kind: api.PtStr, L: list(x)}, nil}, {api.CPat{L: list(x)}, nil}, {api.CPat{Kind: 6, L: list(x)}, nil},
		{api.CPat{Kind: api.PtCon, N: 1, I: 2, S: "x", L: list(x)}, []api.Bind{bind(9, 0)}},
	} {
		if got := Binds(c.p); !alike(got, c.l) {
			t.Error(i, got)
		}
	}
	// 2 stands ahead of 10.
	var many []api.CPat
	var want []api.Bind
	for i := range 12 {
		many = append(many, pCon(1, pAny(), pName(i)))
		want = append(want, bind(i, i, 1))
	}
	if got := Binds(pCon(0, many...)); !alike(got, want) {
		t.Error(got)
	}
	d := &dice{n: 63}
	names := 0
	for range 30000 {
		p := d.pat(d.below(6))
		got := Binds(p)
		if !alike(got, modelBinds(p, nil)) || !alone(got) {
			t.Fatal(said(p), got)
		}
		names += len(got)
	}
	if names < 5000 {
		t.Error(names)
	}
}
