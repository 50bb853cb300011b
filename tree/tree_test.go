package tree

import (
	"fmt"
	"math"
	"reflect"
	"slices"
	"testing"

	"usufruct/api"
	"usufruct/cover"
)

// builds says whether the tree of l is want, which the model must tell, too.
func builds(t *testing.T, what string, g api.Sig, l []api.CPat, want api.Tree, e api.Errno) {
	t.Helper()
	if got, gotE := Build(g, l); gotE != e || !alike(got, want) {
		t.Errorf("%s: %v, %v of %s", what, got, gotE, said(l...))
	}
	if got, gotE := modelBuild(g, l); gotE != e || !alike(got, want) {
		t.Errorf("%s: the model tells %v, %v of %s", what, got, gotE, said(l...))
	}
}

// sameBuild holds Build against the model.
func sameBuild(t *testing.T, g api.Sig, l []api.CPat, what string) (api.Tree, api.Errno) {
	t.Helper()
	want, wantE := modelBuild(g, l)
	got, e := Build(g, l)
	if e != wantE || !alike(got, want) {
		t.Fatalf("%s: %v, %v of %v, %s; the model tells %v, %v", what, got, e, g, said(l...), want, wantE)
	}
	return got, e
}

// TestP161Examples: those of the chapter.
func TestP161Examples(t *testing.T) {
	g := baseSig()
	x, y, z := pName(0), pName(1), pName(2)
	null := pCon(cNil)
	builds(t, "none", g, nil, none(), api.OK)
	builds(t, "a name", g, list(x), arm(0), api.OK)
	builds(t, "Nil; Cons 1 x; Cons y z", g, list(null, consOf(pInt(1), x), consOf(y, z)),
		look(nil, cases(onCon(2, arm(0)), onCon(3, look(path(0), cases(onInt(1, arm(1))), arm(2))))), api.OK)
	builds(t, "Cons _ Nil; Nil", g, list(consOf(pAny(), null), null),
		look(nil, cases(onCon(2, arm(1)), onCon(3, look(path(1), cases(onCon(2, arm(0)), onCon(3, none())))))), api.OK)
	if l := Binds(consOf(x, consOf(y, pAny()))); !alike(l, []api.Bind{bind(0, 0), bind(1, 1, 0)}) {
		t.Error(l)
	}
}

// TestP161Nodes: each kind of node, with its cases and Else.
func TestP161Nodes(t *testing.T) {
	g := baseSig()
	x := pName(7)
	no, yes, null := pCon(cFalse), pCon(cTrue), pCon(cNil)
	builds(t, "any", g, list(pAny()), arm(0), api.OK)
	builds(t, "two names", g, list(x, x), arm(0), api.OK)
	builds(t, "a name, a number", g, list(x, pInt(1)), arm(0), api.OK)
	builds(t, "a number", g, list(pInt(0)), look(nil, cases(onInt(0, arm(0))), none()), api.OK)
	builds(t, "numbers", g, list(pInt(5), pInt(3), pInt(5), pInt(-4), pInt(math.MinInt64), pInt(math.MaxInt64)),
		look(nil, cases(onInt(5, arm(0)), onInt(3, arm(1)), onInt(-4, arm(3)), onInt(math.MinInt64, arm(4)), onInt(math.MaxInt64, arm(5))), none()), api.OK)
	builds(t, "numbers and a name", g, list(pInt(5), pInt(3), x, pInt(4), pInt(3)),
		look(nil, cases(onInt(5, arm(0)), onInt(3, arm(1)), onInt(4, arm(2))), arm(2)), api.OK)
	builds(t, "texts", g, list(pStr("b"), pStr(""), pStr("a"), pStr("b"), pStr("\xff")),
		look(nil, cases(onStr("b", arm(0)), onStr("", arm(1)), onStr("a", arm(2)), onStr("\xff", arm(4))), none()), api.OK)
	builds(t, "texts and any", g, list(pStr("b"), pAny(), pStr("a")), look(nil, cases(onStr("b", arm(0)), onStr("a", arm(1))), arm(1)), api.OK)
	builds(t, "a constructor twice", g, list(yes, yes), look(nil, cases(onCon(0, none()), onCon(1, arm(0)))), api.OK)
	builds(t, "all constructors", g, list(yes, no), look(nil, cases(onCon(0, arm(1)), onCon(1, arm(0)))), api.OK)
	builds(t, "a constructor and a name", g, list(yes, x), look(nil, cases(onCon(0, arm(1)), onCon(1, arm(0)))), api.OK)
	builds(t, "the only constructor", g, list(pairOf(x, pAny())), look(nil, cases(onCon(4, arm(0)))), api.OK)
	builds(t, "what is never come to is asked, too", g, list(pairOf(pInt(1), x), x, pairOf(pInt(2), x)),
		look(nil, cases(onCon(4, look(path(0), cases(onInt(1, arm(0)), onInt(2, arm(1))), arm(1))))), api.OK)
	builds(t, "what does not fit still is not asked", g, list(pairOf(yes, pInt(1)), pairOf(no, pInt(2)), pairOf(yes, pInt(3)), pairOf(x, pInt(4))),
		look(nil, cases(onCon(4, look(path(0), cases(
			onCon(0, look(path(1), cases(onInt(2, arm(1)), onInt(4, arm(3))), none())),
			onCon(1, look(path(1), cases(onInt(1, arm(0)), onInt(3, arm(2)), onInt(4, arm(3))), none()))))))), api.OK)
	builds(t, "what is none of some", g, list(pairOf(pInt(1), yes), pairOf(x, no), pairOf(pInt(2), x)),
		look(nil, cases(onCon(4, look(path(0), cases(
			onInt(1, look(path(1), cases(onCon(0, arm(1)), onCon(1, arm(0))))),
			onInt(2, look(path(1), cases(onCon(0, arm(1)), onCon(1, arm(2)))))),
			look(path(1), cases(onCon(0, arm(1)), onCon(1, none()))))))), api.OK)
	builds(t, "a field of one constructor", g, list(pCon(cB, pStr("x")), pCon(cA), threeOf(pInt(1), x, x), pCon(cB, x)),
		look(nil, cases(onCon(5, arm(1)), onCon(6, look(path(0), cases(onStr("x", arm(0))), arm(3))), onCon(7, look(path(0), cases(onInt(1, arm(2))), none())))), api.OK)
	builds(t, "as long as that", g, list(null, consOf(x, null), consOf(x, consOf(x, null))),
		look(nil, cases(onCon(2, arm(0)), onCon(3, look(path(1), cases(onCon(2, arm(1)), onCon(3,
			look(path(1, 1), cases(onCon(2, arm(2)), onCon(3, none()))))))))), api.OK)
}

// TestP161Turned: the cases stand in the order in which their data type tells them, whatever their numbers are.
func TestP161Turned(t *testing.T) {
	g := baseSig()
	g.Datas[0].Cons = path(1, 0)
	g.Datas[3].Cons = path(6, 7, 5)
	builds(t, "two", g, list(pCon(cFalse), pName(1)), look(nil, cases(onCon(1, arm(1)), onCon(0, arm(0)))), api.OK)
	builds(t, "three", g, list(pCon(cA), pCon(cB, pAny())), look(nil, cases(onCon(6, arm(1)), onCon(7, none()), onCon(5, arm(0)))), api.OK)
}

// TestP161Places: which place is looked at first.
func TestP161Places(t *testing.T) {
	g := baseSig()
	x, no, yes, null := pName(0), pCon(cFalse), pCon(cTrue), pCon(cNil)
	onNo := func(a, b api.Tree) []api.Branch { return cases(onCon(0, a), onCon(1, b)) }
	threes := func(l ...api.Branch) api.Tree { return look(nil, cases(onCon(5, none()), onCon(6, none()), l[0])) }
	builds(t, "one behind the other", g, list(threeOf(no, yes, no)),
		threes(onCon(7, look(path(0), onNo(look(path(1), onNo(none(), look(path(2), onNo(arm(0), none())))), none())))), api.OK)
	builds(t, "within, ahead of the next one", g, list(threeOf(x, consOf(no, null), yes)),
		threes(onCon(7, look(path(1), cases(onCon(2, none()), onCon(3,
			look(path(1, 0), onNo(look(path(1, 1), cases(onCon(2, look(path(2), onNo(none(), arm(0)))), onCon(3, none()))), none()))))))), api.OK)
	builds(t, "what the first one asks, though another one asks ahead of that", g, list(threeOf(x, x, yes), threeOf(no, yes, x)),
		threes(onCon(7, look(path(2), onNo(look(path(0), onNo(look(path(1), onNo(none(), arm(1))), none())), arm(0))))), api.OK)
	builds(t, "what the first one asks that is not known", g, list(threeOf(x, yes, x), threeOf(yes, no, yes), threeOf(no, x, x)),
		threes(onCon(7, look(path(1), onNo(look(path(0), onNo(arm(2), look(path(2), onNo(none(), arm(1))))), arm(0))))), api.OK)
	// Numbers, not texts, tell which one stands ahead: 2 and 10.
	wide := sigOf([]int{12}, []int{0})
	p := pCon(0, slices.Repeat(list(x), 12)...)
	p.L[10], p.L[2] = pInt(1), pInt(2)
	builds(t, "2 ahead of 10", wide, list(p), look(nil, cases(onCon(0, look(path(2), cases(onInt(2, look(path(10), cases(onInt(1, arm(0))), none()))), none())))), api.OK)
}

// TestP161Model: Build against the model, over many lists.
func TestP161Model(t *testing.T) {
	t.Parallel()
	d := &dice{n: 16}
	n := map[string]int{}
	for i := range 15000 {
		g, l := d.sown()
		if i%100 == 0 {
			g, l = d.sownWide()
		}
		got, e := sameBuild(t, g, l, "sown")
		n[fmt.Sprint(e)]++
		n[fmt.Sprint("kind ", got.Kind)]++
		for _, least := range []int{20, 100} {
			if nodes(got) > least {
				n[fmt.Sprint("nodes ", least)]++
			}
		}
	}
	if n["0"] < 10000 || n["kind 1"] < 1000 || n["kind 2"] < 1000 || n["kind 3"] < 5000 || n["nodes 20"] < 250 || n["nodes 100"] < 40 {
		t.Error(n)
	}
}

// TestP161Arg: signatures that do not serve, and lists that do not go together.
func TestP161Arg(t *testing.T) {
	right := baseSig()
	for i, change := range []func(g *api.Sig){
		func(g *api.Sig) { g.Cons[0].Data = -1 },
		func(g *api.Sig) { g.Cons[0].Data = 4 },
		func(g *api.Sig) { g.Cons[0].Data = math.MaxInt },
		func(g *api.Sig) { g.Cons[0].Data = 1 },
		func(g *api.Sig) { g.Datas[0].Cons = nil },
		func(g *api.Sig) { g.Datas[0].Cons = path(0, 1, 0) },
		func(g *api.Sig) { g.Datas[0].Cons = path(0, 1, 8) },
		func(g *api.Sig) { g.Datas[0].Cons = path(0, 1, math.MinInt) },
		func(g *api.Sig) { g.Datas = nil },
		func(g *api.Sig) { g.Cons = g.Cons[:7] },
	} {
		g := clone(right)
		change(&g)
		for _, l := range [][]api.CPat{nil, list(pAny()), list(pInt(1)), ints(1999)} {
			builds(t, fmt.Sprint("signature ", i), g, l, api.Tree{}, api.ErrArg)
		}
	}
	bad := []api.CPat{{}, {Kind: 6}, {Kind: 255}, {Kind: api.PtAny, N: 1}, {Kind: api.PtName, I: 1}, {Kind: api.PtInt, S: "x"}, {Kind: api.PtStr, I: 1},
		pCon(-1), pCon(8), pCon(math.MaxInt), pCon(cNil, pAny()), pCon(cCons), pCon(cCons, pAny()), pCon(cCons, pAny(), pAny(), pAny()), pCon(cCons, pAny(), api.CPat{}),
		{Kind: api.PtCon, N: cNil, I: 1}, {Kind: api.PtInt, L: list(pAny())}, {Kind: api.PtName, L: list(pAny())}}
	for _, p := range bad {
		for _, l := range [][]api.CPat{list(p), list(pAny(), p), list(p, pName(1)), list(pairOf(pAny(), p)), append(ints(1999), p)} {
			builds(t, "a pattern", right, l, api.Tree{}, api.ErrArg)
		}
	}
	builds(t, "unlike kinds", right, list(pInt(1), pStr("")), api.Tree{}, api.ErrArg)
	builds(t, "unlike data types", right, list(pCon(cNil), pAny(), pCon(cA)), api.Tree{}, api.ErrArg)
	builds(t, "unlike kinds within", right, list(pairOf(pInt(1), pAny()), pAny(), pairOf(pCon(cNil), pAny())), api.Tree{}, api.ErrArg)
	builds(t, "unlike kinds behind too many", right, append(ints(1999), pStr("")), api.Tree{}, api.ErrArg)
	builds(t, "no signature", api.Sig{}, list(pInt(1)), look(nil, cases(onInt(1, arm(0))), none()), api.OK)
	builds(t, "no signature, a constructor", api.Sig{}, list(pCon(0)), api.Tree{}, api.ErrArg)
}

// TestP161Spoilt: each place of a signature and of a list being something else.
func TestP161Spoilt(t *testing.T) {
	t.Parallel()
	type both struct {
		G api.Sig
		L []api.CPat
	}
	for _, l := range [][]api.CPat{
		list(pairOf(pInt(1), pStr("x")), pairOf(pName(4), pAny()), pName(2), pairOf(pInt(-1), pStr(""))),
		list(consOf(pCon(cB, pInt(1)), pCon(cNil)), consOf(pName(7), consOf(pAny(), pCon(cNil))), pCon(cNil)),
		list(threeOf(pCon(cTrue), pAny(), pCon(cA)), pCon(cB, pCon(cFalse)), threeOf(pCon(cFalse), pInt(0), pCon(cB, pStr("y")))),
		list(pStr("x"), pStr(""), pName(1)),
	} {
		x := both{baseSig(), l}
		n := map[api.Errno]int{}
		spoil(reflect.ValueOf(&x).Elem(), func(where string) {
			_, e := sameBuild(t, x.G, x.L, where)
			n[e]++
		})
		if n[api.OK] < 20 || n[api.ErrArg] < 20 {
			t.Error(n)
		}
	}
}

// ints is n patterns, of numbers that are not the same.
func ints(n int) []api.CPat {
	var l []api.CPat
	for i := range n {
		l = append(l, pInt(int64(i*7-n)))
	}
	return l
}

// within is p, n times in the field at of the constructor con.
func within(n, con, fields, at int, p api.CPat) api.CPat {
	for range n {
		l := slices.Repeat(list(pAny()), fields)
		l[at] = p
		p = pCon(con, l...)
	}
	return p
}

// grown is a list whose tree has 5 nodes, 4 more for each of four, and one more for each of ones.
func grown(four, ones int) []api.CPat {
	var l []api.CPat
	for i := range four + ones {
		p := pairOf(pInt(int64(i)), pStr("a"))
		if i >= four {
			p.L[1] = pAny()
		}
		l = append(l, p)
	}
	return append(l, pairOf(pAny(), pStr("b")))
}

// TestP161Limit: trees of just 2000 nodes, and of more.
func TestP161Limit(t *testing.T) {
	t.Parallel()
	g := sigOf([]int{0, 0}, []int{0, 2}, []int{2}, []int{0, 1, 3}, []int{1})
	const box = 8
	var strs []api.CPat
	for i := range 1999 {
		strs = append(strs, pStr(fmt.Sprint(i)))
	}
	for _, c := range []struct {
		what string
		l    []api.CPat
		n    int
	}{
		{"numbers", ints(1998), 2000},
		{"one number more", ints(1999), 0},
		{"numbers, twice each", append(ints(1998), ints(1998)...), 2000},
		{"numbers and any", append(ints(1998), pAny()), 2000},
		{"any, and numbers", append(list(pAny()), ints(5000)...), 1},
		{"one number more and any", append(ints(1999), pAny()), 0},
		{"many numbers", ints(5000), 0},
		{"texts", strs[:1998], 2000},
		{"one text more", strs, 0},
		{"boxes", list(within(1999, box, 1, 0, pName(1))), 2000},
		{"one box more", list(within(2000, box, 1, 0, pName(1))), 0},
		{"many boxes", list(within(5000, box, 1, 0, pName(1))), 0},
		{"boxes, and a number", list(within(1997, box, 1, 0, pInt(1))), 2000},
		{"one box more, and a number", list(within(1998, box, 1, 0, pInt(1))), 0},
		{"boxes, and a constructor", list(within(1997, box, 1, 0, pCon(cTrue))), 2000},
		{"one box more, and a constructor", list(within(1998, box, 1, 0, pCon(cTrue))), 0},
		{"a long list", list(within(999, cCons, 2, 1, pName(1))), 1999},
		{"a longer list", list(within(1000, cCons, 2, 1, pName(1))), 0},
		{"pairs", grown(498, 3), 2000},
		{"one pair more", grown(498, 4), 0},
		{"four pairs more", grown(499, 0), 0},
		{"few pairs", grown(1, 0), 9},
	} {
		got, e := Build(g, c.l)
		if c.n == 0 && (e != api.ErrTree || !reflect.DeepEqual(got, api.Tree{})) || c.n > 0 && (e != api.OK || nodes(got) != c.n) {
			t.Error(c.what, nodes(got), e)
		}
	}
	for _, c := range []struct {
		l []api.CPat
		e api.Errno
	}{{grown(498, 3), api.OK}, {grown(498, 4), api.ErrTree}} {
		if _, e := sameBuild(t, g, c.l, "grown"); e != c.e {
			t.Error(e)
		}
	}
}

// TestP161Huge: lists whose tree would have far more nodes.
func TestP161Huge(t *testing.T) {
	t.Parallel()
	refused := func(what string, g api.Sig, l []api.CPat) {
		t.Helper()
		if got, e := Build(g, l); e != api.ErrTree || !reflect.DeepEqual(got, api.Tree{}) {
			t.Error(what, e)
		}
	}
	// Of n rows, each of which asks for two things: 4*2^n - 3 nodes.
	twos := func(n int) (api.Sig, []api.CPat) {
		var l []api.CPat
		for i := range n {
			p := pCon(0, slices.Repeat(list(pAny()), 2*n)...)
			p.L[i], p.L[n+i] = pCon(2), pCon(2)
			l = append(l, p)
		}
		return sigOf([]int{2 * n}, []int{0, 0}), l
	}
	for n := range 8 {
		g, l := twos(n + 1)
		if got, e := sameBuild(t, g, l, "twos"); e != api.OK || nodes(got) != 4<<(n+1)-2 {
			t.Error(n, nodes(got), e)
		}
	}
	for _, n := range []int{9, 10, 30, 60, 500} {
		g, l := twos(n)
		refused("twos", g, l)
	}
	g := sigOf([]int{8}, []int{0, 0})
	d := &dice{n: 3}
	var numbers, all []api.CPat
	for i := range 10000 {
		p, q := pCon(0), pCon(0)
		for k := range 8 {
			p.L = append(p.L, pInt(int64(d.below(100))))
			q.L = append(q.L, pCon(1+i>>k&1))
		}
		numbers, all = append(numbers, p), append(all, q)
	}
	refused("numbers", g, numbers)
	// All of 8 truths are 256 arms, 255 looks and the pair's.
	if got, e := Build(g, all); e != api.OK || nodes(got) != 512 {
		t.Error(nodes(got), e)
	}
	refused("many numbers", api.Sig{}, ints(1000000))
	if got, e := Build(api.Sig{}, slices.Repeat(ints(1000), 100)); e != api.OK || nodes(got) != 1002 {
		t.Error(nodes(got), e)
	}
	refused("a deep one", sigOf([]int{1}), list(within(300000, 0, 1, 0, pAny())))
	if got, e := Build(sigOf([]int{1}), list(pAny(), within(300000, 0, 1, 0, pAny()))); e != api.OK || !alike(got, arm(0)) {
		t.Error(got, e)
	}
}

// covered says whether what fits the row i fits one ahead.
func covered(t *testing.T, g api.Sig, l []api.CPat, i int) bool {
	ok, e := cover.Covers(g, l[:i], l[i])
	if e != api.OK {
		t.Fatal(e)
	}
	return ok
}
