package cover

import (
	"reflect"
	"runtime/debug"
	"slices"
	"testing"

	"usufruct/api"
)

// fill is a value that goes with l.
func (d *dice) fill(g api.Sig, l []api.CPat) api.Val {
	i := slices.IndexFunc(l, func(p api.CPat) bool { return !isWild(p) })
	if i < 0 {
		return one(d, api.Val{}, vInt(0), vStr("x"), wCon(0), vCon(1, vInt(1)), api.Val{Kind: api.WFile}, api.Val{Kind: api.VArr, L: []api.Val{vInt(1)}})
	}
	switch l[i].Kind {
	case api.PtInt:
		return vInt(int64(d.below(5)))
	case api.PtStr:
		return vStr(one(d, "", "0", "x", "y", "1"))
	}
	n := one(d, g.Datas[g.Cons[l[i].N].Data].Cons...)
	if len(g.Cons[n].Fields) == 0 {
		return wCon(int64(n))
	}
	v := vCon(int64(n))
	for k := range g.Cons[n].Fields {
		v.L = append(v.L, d.fill(g, kidsOf(l, n, k)))
	}
	return v
}

// TestP155: what follows, over many lists and values.
func TestP155(t *testing.T) {
	t.Parallel()
	d := &dice{n: 15}
	n := map[api.Errno]int{}
	for range 20000 {
		g, l := d.sown()
		w, k, e := Check(g, l)
		with := slices.Clone(l)
		if e == api.ErrMissing {
			with = append(with, w)
		}
		for range 10 {
			v := d.fill(g, with)
			if !modelGoes(g, l, v) {
				t.Fatal(g.Datas, said(with...), v)
			}
			fit := slices.IndexFunc(l, func(p api.CPat) bool { return Fits(p, v) })
			switch {
			case e == api.OK && fit < 0,
				e == api.ErrMissing && Fits(w, v) && fit >= 0,
				e == api.ErrUseless && Fits(l[k], v) && fit >= k:
				t.Fatal(g.Datas, said(l...), saidPat(w), k, e, v)
			}
			n[e]++
		}
	}
	if n[api.OK] < 1000 || n[api.ErrMissing] < 1000 || n[api.ErrUseless] < 1000 {
		t.Error(n)
	}
}

// one of each of a constructor's fields asks for p, the others for nothing.
func only(n, fields, at int, p api.CPat) api.CPat {
	l := slices.Repeat(list(pAny()), fields)
	l[at] = p
	return pCon(n, l...)
}

// told is what is wanted of Check.
func told(t *testing.T, what string, g api.Sig, l []api.CPat, n int, e api.Errno) {
	t.Helper()
	w, gotN, got := Check(g, l)
	if gotN != n || got != e || e != api.ErrMissing && !reflect.DeepEqual(w, api.CPat{}) {
		t.Error(what, saidPat(w), gotN, got)
	}
	if e != api.ErrMissing {
		return
	}
	if May(g, append(slices.Clone(l), w)) != api.OK || slices.ContainsFunc(l, func(p api.CPat) bool { return !Apart(p, w) }) {
		t.Error(what, saidPat(w))
	}
}

// TestP154Many: many rows and many constructors.
func TestP154Many(t *testing.T) {
	t.Parallel()
	all := make([]int, api.MaxCons)
	g := sigOf(all, []int{2}, []int{8}, []int{0, 2})
	const pair, eight, null, cons = api.MaxCons, api.MaxCons + 1, api.MaxCons + 2, api.MaxCons + 3
	var grid, ints, single, strs []api.CPat
	for i := range api.MaxCons {
		single = append(single, pCon(i))
		for k := range api.MaxCons {
			grid = append(grid, pCon(pair, pCon(i), pCon(k)))
			ints = append(ints, pInt(int64(i*1000+k)))
			strs = append(strs, pStr(string(rune(i))+string(rune(k))))
		}
	}
	end := len(grid)
	for _, c := range []struct {
		what string
		l    []api.CPat
		n    int
		e    api.Errno
	}{
		{"single", single, 0, api.OK},
		{"single and one", append(slices.Clone(single), pAny()), api.MaxCons, api.ErrUseless},
		{"single but one", single[1:], 0, api.ErrMissing},
		{"grid", grid, 0, api.OK},
		{"grid and one", append(slices.Clone(grid), pCon(pair, pAny(), pCon(7))), end, api.ErrUseless},
		{"grid but one", grid[:end-1], 0, api.ErrMissing},
		{"ints", ints, 0, api.ErrMissing},
		{"ints and one", append(slices.Clone(ints), pAny()), 0, api.OK},
		{"ints and two", append(slices.Clone(ints), pInt(99099), pAny()), end, api.ErrUseless},
		{"strs", strs, 0, api.ErrMissing},
		{"strs and one", append(slices.Clone(strs), pAny()), 0, api.OK},
		{"strs and two", append(slices.Clone(strs), strs[77], pAny()), end, api.ErrUseless},
	} {
		told(t, c.what, g, c.l, c.n, c.e)
	}
	var fields []api.CPat
	for at := range 8 {
		for n := range api.MaxCons {
			fields = append(fields, only(eight, 8, at, pCon(n)))
		}
	}
	told(t, "fields", g, fields, api.MaxCons, api.ErrUseless)
	var some []api.CPat
	for i, p := range fields {
		if i%api.MaxCons != 7 {
			some = append(some, p)
		}
	}
	told(t, "fields but eight", g, some, 0, api.ErrMissing)
	some = append(some, pAny())
	told(t, "fields but eight, and one", g, some, 0, api.OK)
	told(t, "fields but eight, and two", g, append(some, pAny()), len(some), api.ErrUseless)
	var lists []api.CPat
	tail := pCon(null)
	for range 300 {
		lists = append(lists, tail)
		tail = pCon(cons, pAny(), tail)
	}
	told(t, "lists", g, lists, 0, api.ErrMissing)
	for range 300 {
		tail = tail.L[1]
	}
	long := pAny()
	for range 300 {
		long = pCon(cons, pAny(), long)
	}
	told(t, "lists and a longer one", g, append(slices.Clone(lists), long), 0, api.OK)
	told(t, "a longer one and lists", g, append(list(long), lists...), 0, api.OK)
	told(t, "lists and two longer ones", g, append(slices.Clone(lists), long, pAny()), 301, api.ErrUseless)
}

// TestP154Wide: patterns with which a search that goes from left to right alone, or looks for no end of its own, would not end.
func TestP154Wide(t *testing.T) {
	t.Parallel()
	const n = 40
	g := sigOf(make([]int, 10), []int{n}, []int{0, 0})
	const wide, no, yes = 10, 11, 12
	both := func(i int, p api.CPat, k int, q api.CPat) api.CPat {
		x := only(wide, n, i, p)
		x.L[k] = q
		return x
	}
	var l, m, pairs []api.CPat
	for i := range n - 1 {
		for c := range 10 {
			l = append(l, both(i, pCon(c), n-1, pCon(no)))
			m = append(m, only(wide, n, i, pCon(c)))
		}
		for k := range i {
			pairs = append(pairs, both(i, pCon(yes), k, pCon(yes)))
		}
	}
	l = append(l, only(wide, n, n-1, pCon(yes)))
	last, asks := pAny(), slices.Repeat(list(pCon(no)), n)
	if ok, e := Covers(g, l, last); !ok || e != api.OK {
		t.Error(ok, e)
	}
	if ok, e := Covers(g, l[10:], last); !ok || e != api.OK {
		t.Error(ok, e)
	}
	told(t, "the last field", g, l, 10, api.ErrUseless)
	told(t, "nothing of the last field", g, l[:len(l)-1], 0, api.ErrMissing)
	if ok, e := Covers(g, m, last); !ok || e != api.OK {
		t.Error(ok, e)
	}
	told(t, "two of many", g, pairs, 0, api.ErrMissing)
	for i := range n {
		one := slices.Clone(asks)
		one[i] = pAny()
		pairs = append(pairs, pCon(wide, one...))
	}
	told(t, "one of many", g, pairs, 0, api.ErrMissing)
	for k := range n - 1 {
		pairs = append(pairs, both(n-1, pCon(yes), k, pCon(yes)))
	}
	told(t, "two of many, or one", g, pairs, 0, api.OK)
	told(t, "two of many, or one, or none", g, append(pairs, pCon(wide, asks...)), len(pairs), api.ErrUseless)
	told(t, "all alike", g, slices.Repeat(list(pCon(wide, asks...)), 50), 0, api.ErrMissing)
	told(t, "all alike, and any", g, append(slices.Repeat(list(pCon(wide, asks...)), 50), pAny()), 1, api.ErrUseless)
}

// TestP154Noise: rows that all ask for one of two at some place make no difference, however many there are.
func TestP154Noise(t *testing.T) {
	t.Parallel()
	const n = 80
	g := sigOf([]int{n}, []int{0, 0})
	const wide, no, yes = 0, 1, 2
	asks := func(at map[int]int) api.CPat {
		p := pCon(wide, slices.Repeat(list(pAny()), n)...)
		for i, c := range at {
			p.L[i] = pCon(c)
		}
		return p
	}
	var l []api.CPat
	for i := 4; i < n; i += 2 {
		l = append(l, asks(map[int]int{i: yes, i + 1: yes}), asks(map[int]int{0: yes, i: no}))
	}
	for i := range 8 {
		l = append(l, asks(map[int]int{1: no + i%2, 2: no + i/2%2, 3: no + i/4}))
	}
	p := asks(map[int]int{0: no})
	if ok, e := Covers(g, l, p); !ok || e != api.OK {
		t.Error(ok, e)
	}
	if ok, e := Covers(g, l[:len(l)-1], p); ok || e != api.OK {
		t.Error(ok, e)
	}
	more := l
	for i := 5; i < n; i += 2 {
		more = append(more, asks(map[int]int{0: yes, i: no}))
	}
	if ok, e := Covers(g, more, p); !ok || e != api.OK {
		t.Error(ok, e)
	}
	told(t, "noise", g, l, 0, api.OK)
	told(t, "noise, and what is covered", g, append(l, p), len(l), api.ErrUseless)
}

// TestR1Deep: trees that are deeper than calls go.
func TestR1Deep(t *testing.T) {
	defer debug.SetMaxStack(debug.SetMaxStack(1 << 22))
	const n = 100000
	g := sigOf([]int{0, 2}, []int{1})
	chain := func(end api.CPat) (api.CPat, api.CPat) {
		p, q := end, end
		for range n {
			p, q = pCon(1, pAny(), p), pCon(2, q)
		}
		return p, q
	}
	vals := func(end api.Val) (api.Val, api.Val) {
		v, w := end, end
		for range n {
			v, w = vCon(1, vInt(1), v), vCon(2, w)
		}
		return v, w
	}
	p, q := chain(pCon(0))
	p2, q2 := chain(pAny())
	v, w := vals(wCon(0))
	v2, w2 := vals(vCon(1, vInt(1), wCon(0)))
	odd, odd2 := chain(api.CPat{})
	if !Fits(p, v) || Fits(p, v2) || !Fits(q, w) || Fits(q, w2) || !Fits(p2, v2) || !Fits(q2, w2) || Fits(p, w) || Fits(odd, v) {
		t.Error("Fits")
	}
	if Apart(p, p2) || Apart(q, q2) || Apart(p, pAny()) || !Apart(p, q) || !Apart(odd, pAny()) || !Apart(pAny(), odd2) || !Apart(p, odd) || !Apart(q, odd2) {
		t.Error("Apart")
	}
	if May(g, list(p, p2)) != api.OK || May(g, list(q, q2)) != api.OK || May(g, list(p, q)) != api.ErrArg || May(g, list(odd)) != api.ErrArg || May(g, list(q, odd2)) != api.ErrArg {
		t.Error("May")
	}
	for _, c := range []struct {
		l    []api.CPat
		p    api.CPat
		want bool
	}{{list(p), p2, false}, {list(p2), p, true}, {list(q), q2, false}, {list(q2), pAny(), true}, {list(p2, pAny()), p, true}} {
		if ok, e := Covers(g, c.l, c.p); ok != c.want || e != api.OK {
			t.Error("Covers", ok, e)
		}
	}
	if _, k, e := Check(g, list(q2, q)); k != 1 || e != api.ErrUseless {
		t.Error(k, e)
	}
	x, k, e := Check(g, list(q))
	if k != 0 || e != api.ErrMissing || !Apart(x, q) || May(g, list(q, x)) != api.OK {
		t.Error(k, e)
	}
	x, k, e = Check(g, list(p2, pCon(0)))
	if k != 0 || e != api.ErrMissing || !Apart(x, p2) || May(g, list(p2, x)) != api.OK {
		t.Error(k, e)
	}
}

// TestR3Shared: lists whose parts share memory; nothing is changed, and nothing of what is answered is shared.
func TestR3Shared(t *testing.T) {
	g := baseSig()
	room := make([]api.CPat, 2, 8)
	room[0], room[1] = pCon(cTrue), pName(1)
	for i := range room[:8] {
		if i > 1 {
			room[:8][i] = pStr("room")
		}
	}
	p := pCon(cPair, room...)
	double := []api.CPat{p, p}
	l := make([]api.CPat, 3, 9)
	copy(l, list(pCon(cPair, double...), pCon(cPair, double...), pCon(cPair, double[1], pAny())))
	was, wasG := clone(l[:9]), clone(g)
	w, k, e := Check(g, l)
	if k != 0 || e != api.ErrMissing || !isWitness(g, l, w) {
		t.Error(saidPat(w), k, e)
	}
	all := append(l[:3:3], pAny())
	if _, k, e := Check(g, all); k != 1 || e != api.ErrUseless {
		t.Error(k, e)
	}
	if ok, e := Covers(g, l, l[1]); !ok || e != api.OK {
		t.Error(ok, e)
	}
	if ok, e := Covers(g, l[:0], l[1]); ok || e != api.OK {
		t.Error(ok, e)
	}
	if ok, e := Covers(g, l[:2], pAny()); ok || e != api.OK {
		t.Error(ok, e)
	}
	if !Fits(l[0], vCon(cPair, vCon(cPair, wCon(cTrue), vInt(1)), vCon(cPair, wCon(cTrue), vInt(1)))) || Apart(l[0], l[1]) {
		t.Error("Fits, Apart")
	}
	if !alike(l[:9], was) || !alike(g, wasG) || room[:8][2].S != "room" {
		t.Error("changed")
	}
	// The same list stands at two places at which unlike kinds may stand.
	if e := May(g, list(pCon(cPair, p, p), pCon(cPair, pCon(cPair, pCon(cTrue), pInt(1)), pCon(cPair, pCon(cTrue), pStr(""))))); e != api.OK {
		t.Error(e)
	}
	d := &dice{n: 21}
	for range 5000 {
		g, l := d.sown()
		w, _, e := Check(g, l)
		v, _, _ := Check(g, l)
		if !reflect.DeepEqual(w, v) {
			t.Fatal(said(l...), saidPat(w), saidPat(v))
		}
		if e == api.ErrMissing && !(alone(w, v) && alone(w, g) && (len(l) == 0 || alone(slices.Concat(list(w), clone(l))))) {
			t.Fatal(said(l...), saidPat(w))
		}
	}
}

// TestR5Order: what is asked ahead makes no difference.
func TestR5Order(t *testing.T) {
	d := &dice{n: 23}
	for range 300 {
		g, l := d.sown()
		w, n, e := Check(g, l)
		for range 5 {
			d.sown()
			May(baseSig(), list(pInt(1)))
			w2, n2, e2 := Check(clone(g), clone(l))
			if !reflect.DeepEqual(w, w2) || n != n2 || e != e2 {
				t.Fatal(said(l...))
			}
		}
	}
}
