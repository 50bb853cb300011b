package tree

import (
	"math"
	"reflect"
	"runtime/debug"
	"slices"
	"testing"

	"usufruct/api"
	"usufruct/cover"
)

// seen is what stands in a tree.
type seen struct {
	arms map[int]bool
	none bool
}

// down goes down all ways of t; each place at which it comes by must be looked at once, and behind that in which it stands.
func (s *seen) down(t *testing.T, tree api.Tree, way [][]int) {
	switch tree.Kind {
	case api.TrNone:
		s.none = true
	case api.TrArm:
		s.arms[tree.N] = true
	case api.TrLook:
		at := tree.Path
		is := func(p []int) func([]int) bool { return func(q []int) bool { return slices.Equal(p, q) } }
		if slices.ContainsFunc(way, is(at)) || len(at) > 0 && !slices.ContainsFunc(way, is(at[:len(at)-1])) {
			t.Fatal(way, at)
		}
		for _, c := range tree.Cases {
			s.down(t, c.T, append(way, at))
		}
		for _, x := range tree.Else {
			s.down(t, x, append(way, at))
		}
	default:
		t.Fatal(tree)
	}
}

// TestP164: of each value that goes with a list the arm is the first one that fits; TestP165: what stands in the tree.
func TestP164AndP165(t *testing.T) {
	t.Parallel()
	d := &dice{n: 164}
	n := map[string]int{}
	for range 20000 {
		g, l := d.sown()
		tree, e := Build(g, l)
		if e != api.OK {
			continue
		}
		s := seen{arms: map[int]bool{}}
		s.down(t, tree, nil)
		if _, _, e := cover.Check(g, l); s.none != (e == api.ErrMissing) {
			t.Fatal(said(l...), tree, e)
		}
		for i := range l {
			is := covered(t, g, l, i)
			if is == s.arms[i] {
				t.Fatal(said(l...), tree, i)
			}
			if is {
				n["covered"]++
			}
		}
		for range 10 {
			v := d.fill(g, l)
			arm, ok := Run(tree, v)
			if first, is := First(l, v); arm != first || ok != is {
				t.Fatal(said(l...), tree, v, arm, ok)
			}
			switch {
			case !ok:
				n["none"]++
			case arm > 0:
				n["behind"]++
			}
			v = d.val(2)
			want, is := modelRun(tree, v)
			if arm, ok := Run(tree, v); arm != want || ok != is {
				t.Fatal(said(l...), tree, v, arm, ok)
			}
		}
	}
	if n["covered"] < 5000 || n["none"] < 5000 || n["behind"] < 5000 {
		t.Error(n)
	}
}

// TestR1Deep: patterns, values and trees that are deeper than calls go.
func TestR1Deep(t *testing.T) {
	defer debug.SetMaxStack(debug.SetMaxStack(1 << 22))
	const n = 100000
	g := sigOf([]int{0, 2}, []int{1})
	p, q := within(n, 1, 2, 1, pName(5)), within(n, 2, 1, 0, pName(6))
	for _, p := range list(p, q) {
		if got, e := Build(g, list(p)); e != api.ErrTree || !reflect.DeepEqual(got, api.Tree{}) {
			t.Error(e)
		}
		if got, e := Build(g, list(pName(1), p)); e != api.OK || !reflect.DeepEqual(got, arm(0)) {
			t.Error(e)
		}
		l := Binds(p)
		if len(l) != 1 || len(l[0].Path) != n || l[0].Path[0] != l[0].Path[n-1] {
			t.Error(len(l))
		}
	}
	if got, e := Build(g, list(pCon(0), p)); e != api.ErrTree || !reflect.DeepEqual(got, api.Tree{}) {
		t.Error(e)
	}
	v := vInt(7)
	var way []int
	for range n {
		v = vCon(1, vInt(1), v)
		way = append(way, 1)
	}
	if got, ok := At(v, way); !ok || !reflect.DeepEqual(got, vInt(7)) {
		t.Error(got.Kind, ok)
	}
	if got, ok := At(v, append(way, 1)); ok || !reflect.DeepEqual(got, api.Val{}) {
		t.Error(got.Kind, ok)
	}
	if i, ok := First(list(pCon(0), q, p), v); i != 2 || !ok {
		t.Error(i, ok)
	}
	cased, other := look(way, cases(onInt(7, arm(4)))), look(way, nil, arm(5))
	for range n {
		cased, other = look(nil, cases(onCon(1, cased))), look(path(1), nil, other)
	}
	if i, ok := Run(cased, v); i != 4 || !ok {
		t.Error(i, ok)
	}
	if i, ok := Run(other, v); i != 5 || !ok {
		t.Error(i, ok)
	}
	if i, ok := Run(cased, wCon(0)); i != 0 || ok {
		t.Error(i, ok)
	}
}

// TestR1Ring: trees that stand in themselves; a way that goes round comes to no arm, others do.
func TestR1Ring(t *testing.T) {
	for ring := 1; ring < 12; ring++ {
		for tail := range 12 {
			// Each node stands in the one ahead, as a case or as Else, the last one in another one.
			l := make([]api.Tree, ring+tail)
			for i := range l {
				l[i] = look(nil, cases(onInt(int64(i), arm(i)), onStr("x", arm(99))), api.Tree{})
			}
			for i := len(l) - 2; i >= 0; i-- {
				l[i].Else[0] = l[i+1]
			}
			l[len(l)-1].Else[0] = l[tail]
			if n, ok := Run(l[0], wCon(1)); n != 0 || ok {
				t.Fatal(ring, tail, n, ok)
			}
			for i := range l {
				if n, ok := Run(l[0], vInt(int64(i))); n != i || !ok {
					t.Fatal(ring, tail, i, n, ok)
				}
			}
			if n, ok := Run(l[0], vInt(-1)); n != 0 || ok {
				t.Fatal(ring, tail, n, ok)
			}
		}
	}
	c := cases(onCon(1, api.Tree{}))
	c[0].T = look(nil, c)
	if n, ok := Run(c[0].T, wCon(1)); n != 0 || ok {
		t.Fatal(n, ok)
	}
	// A list that stands at many places of a tree is no ring.
	shared := []api.Tree{arm(3)}
	for range 40 {
		shared = []api.Tree{look(nil, cases(onInt(1, shared[0])), shared...)}
	}
	if n, ok := Run(shared[0], vInt(1)); n != 3 || !ok {
		t.Fatal(n, ok)
	}
}

// TestR3: nothing is changed, nothing of a tree or of names is shared.
func TestR3(t *testing.T) {
	t.Parallel()
	d := &dice{n: 3}
	for range 3000 {
		g, l := d.sown()
		wasG, was := clone(g), clone(l)
		tree, e := Build(g, l)
		again, _ := Build(wasG, was)
		if !alike(tree, again) || !alone(tree, again, g) {
			t.Fatal(said(l...), e)
		}
		for _, p := range l {
			if b := Binds(p); !alone(tree, b, p) || !alike(b, Binds(clone(p))) {
				t.Fatal(said(p))
			}
		}
		v, way := d.fill(g, l), d.path()
		wasT, wasV, wasW := clone(tree), clone(v), slices.Clone(way)
		Run(tree, v)
		First(l, v)
		At(v, way)
		if !alike(g, wasG) || !alike(l, was) || !alike(tree, wasT) || !alike(v, wasV) || !slices.Equal(way, wasW) {
			t.Fatal("changed", said(l...))
		}
	}
}

// TestR3Shared: lists whose parts share memory, with room behind them.
func TestR3Shared(t *testing.T) {
	g := baseSig()
	room := make([]api.CPat, 2, 8)
	room[0], room[1] = pCon(cTrue), pName(1)
	for i := range room[:8] {
		if i > 1 {
			room[:8][i] = pStr("room")
		}
	}
	p := pCon(cPair, room...)
	double := []api.CPat{p, p}
	l := make([]api.CPat, 4, 9)
	copy(l, list(pCon(cPair, double...), pCon(cPair, double...), pCon(cPair, double[1], pAny()), pAny()))
	was := clone(l[:9])
	onYes := func(a, b api.Tree) []api.Branch { return cases(onCon(0, a), onCon(1, b)) }
	second := look(path(1), cases(onCon(4, look(path(1, 0), onYes(arm(2), arm(0))))))
	builds(t, "shared", g, l, look(nil, cases(onCon(4, look(path(0), cases(onCon(4, look(path(0, 0), onYes(arm(3), second)))))))), api.OK)
	if got := Binds(l[0]); !alike(got, []api.Bind{bind(1, 0, 1), bind(1, 1, 1)}) || !alone(got) {
		t.Error(got)
	}
	if !alike(l[:9], was) || room[:8][2].S != "room" {
		t.Error("changed")
	}
	// The same list stands at two places at which unlike kinds may stand.
	second = look(path(1), cases(onCon(4, look(path(1, 0), onYes(none(), arm(0))))))
	builds(t, "unlike kinds", g, list(pCon(cPair, p, p), pCon(cPair, pCon(cPair, pCon(cTrue), pInt(1)), pCon(cPair, pCon(cTrue), pStr("")))),
		look(nil, cases(onCon(4, look(path(0), cases(onCon(4, look(path(0, 0), onYes(none(), second)))))))), api.OK)
	kids := list(pInt(1), pInt(2))
	builds(t, "one list", g, list(pCon(cPair, kids...), pCon(cPair, kids[1], kids[0]), pCon(cPair, kids[:2:2]...)),
		look(nil, cases(onCon(4, look(path(0), cases(
			onInt(1, look(path(1), cases(onInt(2, arm(0))), none())),
			onInt(2, look(path(1), cases(onInt(1, arm(1))), none()))), none())))), api.OK)
	v := vCon(cPair, vInt(1), vInt(2))
	w := vCon(cPair, v.L[1], v.L[0])
	x := vCon(cPair, v, api.Val{Kind: api.VArr, L: v.L})
	if got, ok := At(x, path(1, 1)); !ok || !alike(got, vInt(2)) {
		t.Error(got, ok)
	}
	if n, ok := First(list(pCon(cPair, kids...), pCon(cPair, kids[1], kids[0])), w); n != 1 || !ok {
		t.Error(n, ok)
	}
}

// TestR5: what is asked ahead makes no difference, nor where lists and names stand, nor what the patterns' places are.
func TestR5(t *testing.T) {
	t.Parallel()
	d := &dice{n: 50}
	for range 300 {
		g, l := d.sown()
		tree, e := Build(g, l)
		for range 5 {
			d.sown()
			Build(baseSig(), list(pInt(1)))
			moved := clone(l)
			for i := range moved {
				each(reflect.ValueOf(&moved[i]).Elem(), func(v reflect.Value) {
					if v.Type() == reflect.TypeFor[api.Pos]() {
						v.Set(reflect.ValueOf(api.Pos{At: d.below(9) - 3, Line: math.MinInt, Col: 1}))
					}
					if p, ok := v.Addr().Interface().(*api.CPat); ok && p.Kind == api.PtName {
						p.N = d.below(9) - 3
					}
				})
			}
			if t2, e2 := Build(clone(g), moved); e2 != e || !reflect.DeepEqual(tree, t2) {
				t.Fatal(said(l...))
			}
		}
	}
}
