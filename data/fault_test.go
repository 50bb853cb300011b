package data

import (
	"fmt"
	"slices"
	"sync"
	"testing"

	"usufruct/api"
)

// placed is l with other places for all that has one.
func placed(l []api.Decl) []api.Decl {
	n := 0
	next := func() api.Pos {
		n++
		return api.Pos{At: 10 * n, Line: n, Col: 7 * n}
	}
	var ty func(t *api.Ty)
	ty = func(t *api.Ty) {
		t.At = next()
		for i := range t.L {
			ty(&t.L[i])
		}
	}
	l = clone(l)
	for i := range l {
		l[i].At = next()
		for k := range l[i].Cons {
			l[i].Cons[k].At = next()
			for f := range l[i].Cons[k].Fields {
				ty(&l[i].Cons[k].Fields[f].T)
			}
		}
	}
	return l
}

// base is right declarations, in which all stands that may.
func base() []api.Decl { return clone(baseOnce()) }

var baseOnce = sync.OnceValue(func() []api.Decl {
	return placed(declared(`data T a b = A 1 a ? (T b a) * (a -1> List b) | B let x = 1
data U = C 1 (T Int U) * Str | D ? (Arr (V U File)) | E let rec y z = z
data V c d = F ? c * (d -?> (c -*> Io)) | G 1 U`))
})

// spoiler puts something wrong into declarations, if the place is there.
type spoiler struct {
	name string
	do   func(l []api.Decl) []api.Decl
}

// types is all places of types in l: declaration, constructor, field, and then the way within.
func types(l []api.Decl) [][]int {
	var all [][]int
	var within func(way []int, t api.Ty)
	within = func(way []int, t api.Ty) {
		all = append(all, way)
		for i, u := range t.L {
			within(append(slices.Clone(way), i), u)
		}
	}
	for i, d := range l {
		for k, c := range d.Cons {
			for f, x := range c.Fields {
				within([]int{i, k, f}, x.T)
			}
		}
	}
	return all
}

// at is the type at that place, nil if there is none.
func at(l []api.Decl, way []int) *api.Ty {
	if way[0] >= len(l) || way[1] >= len(l[way[0]].Cons) || way[2] >= len(l[way[0]].Cons[way[1]].Fields) {
		return nil
	}
	t := &l[way[0]].Cons[way[1]].Fields[way[2]].T
	for _, i := range way[3:] {
		if i >= len(t.L) {
			return nil
		}
		t = &t.L[i]
	}
	return t
}

func typeSpoilers(way []int) []spoiler {
	leaf := api.Ty{Kind: api.TyCon, S: "Int", At: api.Pos{At: 5}}
	var l []spoiler
	add := func(name string, change func(t *api.Ty)) {
		l = append(l, spoiler{fmt.Sprint(name, way), func(l []api.Decl) []api.Decl {
			if t := at(l, way); t != nil {
				change(t)
			}
			return l
		}})
	}
	add("kind 0", func(t *api.Ty) { t.Kind = 0 })
	add("kind 4", func(t *api.Ty) { t.Kind = 4 })
	add("kind name", func(t *api.Ty) { t.Kind = api.TyName })
	add("kind con", func(t *api.Ty) { t.Kind = api.TyCon })
	add("kind fun", func(t *api.Ty) { t.Kind, t.M = api.TyFun, 1 })
	add("mult", func(t *api.Ty) { t.M += 2 })
	add("mult 0", func(t *api.Ty) { t.M = 0 })
	add("name", func(t *api.Ty) { t.S = "x" })
	add("name of one", func(t *api.Ty) { t.S = "T" })
	add("name of list", func(t *api.Ty) { t.S = "List" })
	add("kid more", func(t *api.Ty) { t.L = append(t.L, leaf) })
	add("wrong kid more", func(t *api.Ty) { t.L = append(t.L, api.Ty{At: api.Pos{At: 6}}) })
	add("kid less", func(t *api.Ty) { t.L = t.L[:max(0, len(t.L)-1)] })
	add("big", func(t *api.Ty) { *t = sized(301)[1] })
	return l
}

func declSpoilers(i int) []spoiler {
	var l []spoiler
	add := func(name string, change func(d *api.Decl)) {
		l = append(l, spoiler{fmt.Sprint(name, i), func(l []api.Decl) []api.Decl {
			change(&l[i])
			return l
		}})
	}
	for _, kind := range []uint8{0, api.DcLet, 3, 255} {
		add(fmt.Sprint("kind", kind), func(d *api.Decl) { d.Kind = kind })
	}
	for _, name := range []string{"", "T", "U", "V", "Int", "Arr", "Bool", "Wrote", "A", "x"} {
		add("name"+name, func(d *api.Decl) { d.Name = name })
	}
	add("params", func(d *api.Decl) { d.Params = []string{"a", "b", "c", "d", "e"} })
	add("params 4", func(d *api.Decl) { d.Params = []string{"a", "b", "c", "d"} })
	add("param more", func(d *api.Decl) { d.Params = append(d.Params, "q") })
	add("param less", func(d *api.Decl) { d.Params = d.Params[:max(0, len(d.Params)-1)] })
	add("same params", func(d *api.Decl) { d.Params = []string{"c", "a", "c"} })
	add("no cons", func(d *api.Decl) { d.Cons = nil })
	add("much else", func(d *api.Decl) { d.Rec, d.E = true, api.Expr{Kind: api.ExName, S: "q"} })
	return l
}

func conSpoilers(i, k int) []spoiler {
	var l []spoiler
	add := func(name string, change func(c *api.ConDecl)) {
		l = append(l, spoiler{fmt.Sprint(name, i, k), func(l []api.Decl) []api.Decl {
			if k < len(l[i].Cons) {
				change(&l[i].Cons[k])
			}
			return l
		}})
	}
	for _, name := range []string{"", "A", "B", "C", "E", "G", "False", "Fail", "T", "Int"} {
		add("name"+name, func(c *api.ConDecl) { c.Name = name })
	}
	leaf := api.Field{M: 2, T: api.Ty{Kind: api.TyCon, S: "Io"}}
	add("fields", func(c *api.ConDecl) { c.Fields = slices.Repeat([]api.Field{leaf}, 9) })
	add("fields 8", func(c *api.ConDecl) { c.Fields = slices.Repeat([]api.Field{leaf}, 8) })
	add("field more", func(c *api.ConDecl) { c.Fields = append(c.Fields, leaf) })
	add("wrong field more", func(c *api.ConDecl) { c.Fields = append(c.Fields, api.Field{M: 1}) })
	for f := range 3 {
		for _, m := range []api.Mult{0, 1, 3, 4, 255} {
			add(fmt.Sprint("mult", m, f), func(c *api.ConDecl) {
				if f < len(c.Fields) {
					c.Fields[f].M = m
				}
			})
		}
	}
	return l
}

// spoilers is all of them, for base.
func spoilers() []spoiler {
	var l []spoiler
	for i, d := range base() {
		l = append(l, declSpoilers(i)...)
		for k := range d.Cons {
			l = append(l, conSpoilers(i, k)...)
		}
	}
	for _, way := range types(base()) {
		l = append(l, typeSpoilers(way)...)
	}
	for _, n := range []int{27, 28, 29, 60} {
		text := several(0, n, func(i int) string { return fmt.Sprint(" data X", i, " = Y", i) })
		l = append(l, spoiler{fmt.Sprint("datas", n), func(l []api.Decl) []api.Decl { return append(l, declared(text)...) }})
		l = append(l, spoiler{fmt.Sprint("ahead", n), func(l []api.Decl) []api.Decl { return append(declared(text), l...) }})
	}
	for _, n := range []int{77, 78, 79, 200} {
		text := "data Z = Z" + several(0, n, func(i int) string { return fmt.Sprint(" | Z", i) })
		l = append(l, spoiler{fmt.Sprint("cons", n), func(l []api.Decl) []api.Decl { return append(l, declared(text)...) }})
	}
	return l
}

// TestP132EachFault: each by itself.
func TestP132EachFault(t *testing.T) {
	if !asModel(t, base()) {
		return
	}
	wrong := map[api.Errno]int{}
	for _, x := range spoilers() {
		l := x.do(base())
		if !asModel(t, l) {
			t.Fatal(x.name)
		}
		_, d := Check(l)
		wrong[d.E]++
	}
	for _, e := range []api.Errno{api.OK, api.ErrArg, api.ErrLong, api.ErrTwice, api.ErrUnknown, api.ErrArity} {
		if wrong[e] < 10 {
			t.Error(e, wrong)
		}
	}
}

// TestP132TwoFaults: each error at each place with each other one; of spoilers that come to the same error at the same place, some pairs.
func TestP132TwoFaults(t *testing.T) {
	told := map[api.Diag]bool{{}: true}
	first := map[string]bool{"datas29": true, "cons78": true}
	l := spoilers()
	for _, x := range l {
		_, d := Check(x.do(base()))
		first[x.name] = first[x.name] || !told[d]
		told[d] = true
	}
	if len(told) < 60 {
		t.Error(len(told))
	}
	for i, x := range l {
		for k, y := range l {
			if first[x.name] && first[y.name] || (i+7*k)%23 == 0 {
				if !asModel(t, y.do(x.do(base()))) {
					t.Fatal(x.name, " ", y.name)
				}
			}
		}
	}
}

// dice is a row of numbers, the same each time.
type dice struct{ n uint64 }

func (d *dice) below(k int) int {
	d.n = d.n*6364136223846793005 + 1442695040888963407
	return int(d.n >> 33 % uint64(k))
}

func (d *dice) at() api.Pos {
	return api.Pos{At: d.below(4000), Line: d.below(9), Col: d.below(99)}
}

// seldom is true once in k times.
func (d *dice) seldom(k int) bool { return d.below(k) == 0 }

// sown is declarations; wrong is about how many things there are ahead of one that may be wrong.
func (d *dice) sown(wrong int) []api.Decl {
	var l []api.Decl
	for i := range d.below(7) {
		x := api.Decl{Kind: api.DcData, Name: fmt.Sprint("D", i), At: d.at()}
		if d.seldom(4) {
			x.Kind, x.Name = api.DcLet, "d"
			l = append(l, x)
			continue
		}
		if d.seldom(wrong) {
			x.Kind = uint8(d.below(5))
		}
		if d.seldom(wrong) {
			x.Name = []string{"D0", "D1", "List", "Int", "D9"}[d.below(5)]
		}
		for k := range d.below(5) {
			x.Params = append(x.Params, string(rune('a'+k)))
		}
		if d.seldom(wrong) {
			x.Params = append(x.Params, []string{"a", "b", "e"}[d.below(3)])
		}
		l = append(l, x)
	}
	for i := range l {
		if l[i].Kind == api.DcLet && l[i].Name == "d" {
			continue
		}
		for k := range 1 + d.below(3) - d.below(wrong)/(wrong-1) {
			c := api.ConDecl{Name: fmt.Sprint("C", i, k), At: d.at()}
			if d.seldom(wrong) {
				c.Name = []string{"C00", "C10", "Nil", "D0"}[d.below(4)]
			}
			for range d.below(4) + 7*d.below(wrong)/(wrong-1) {
				c.Fields = append(c.Fields, api.Field{M: api.Mult(1 + d.below(3) + d.below(wrong)/(wrong-1)), T: d.ty(l, l[i].Params, 1+d.below(5), wrong)})
			}
			l[i].Cons = append(l[i].Cons, c)
		}
	}
	return l
}

// ty is a type of a field, up to so deep.
func (d *dice) ty(l []api.Decl, params []string, deep, wrong int) api.Ty {
	t := api.Ty{Kind: api.TyCon, S: []string{"Int", "Str", "Io", "File", "Bool"}[d.below(5)], At: d.at()}
	takes := 0
	switch k := d.below(5); {
	case k == 0 && len(params) > 0 || deep < 2 && d.seldom(2) && len(params) > 0:
		t.Kind, t.S = api.TyName, params[d.below(len(params))]
	case deep < 2:
	case k == 1:
		t.Kind, t.S, t.M, takes = api.TyFun, "", api.Mult(1+d.below(3)), 2
	case k == 2:
		t.S, takes = "Arr", 1
	case k == 3:
		t.S, takes = "Pair", 2
	case len(l) > 0:
		if x := l[d.below(len(l))]; x.Kind == api.DcData {
			t.S, takes = x.Name, len(x.Params)
		}
	}
	if d.seldom(2 * wrong) {
		t.S = []string{"q", "Q", "a", "List"}[d.below(4)]
	}
	if d.seldom(2 * wrong) {
		t.Kind, t.M = uint8(d.below(5)), api.Mult(d.below(5))
	}
	if d.seldom(2 * wrong) {
		takes += d.below(3) - 1
	}
	for range takes {
		t.L = append(t.L, d.ty(l, params, deep-1, wrong))
	}
	return t
}

// TestP132Sown: many declarations at random, against the model.
func TestP132Sown(t *testing.T) {
	d := &dice{}
	told := map[api.Errno]int{}
	for i := range 12000 {
		l := d.sown([]int{6, 20, 60, 400}[i%4])
		if !asModel(t, l) {
			t.Fatal(i)
		}
		_, x := Check(l)
		told[x.E]++
	}
	for _, e := range []api.Errno{api.OK, api.ErrArg, api.ErrTwice, api.ErrUnknown, api.ErrArity} {
		if told[e] < 300 {
			t.Error(e, told)
		}
	}
}

// TestP135: what is told may be and begins with what is given; names, put in anywhere, change nothing.
func TestP135(t *testing.T) {
	d := &dice{n: 5}
	given := Given()
	for range 4000 {
		l := d.sown([]int{9, 1000}[d.below(2)])
		s, diag := Check(l)
		if diag.E == api.OK && (May(s) != api.OK || modelMay(s) != api.OK || !alike(s.Datas[:9], given.Datas) || !alike(s.Cons[:15], given.Cons)) {
			t.Fatal(l, s)
		}
		more := slices.Clone(l)
		for range 1 + d.below(5) {
			x := api.Decl{Kind: api.DcLet, Name: "T", At: d.at(), Rec: d.seldom(2)}
			if d.seldom(2) {
				// What does not belong to a name counts for nothing either.
				x.Name, x.Params, x.Cons = "Int", []string{"a", "a"}, []api.ConDecl{{Name: "Nil"}}
			}
			more = slices.Insert(more, d.below(len(more)+1), x)
		}
		if s2, diag2 := Check(more); diag2 != diag || !alike(s, s2) {
			t.Fatal(l, diag, diag2)
		}
		var less []api.Decl
		for _, x := range l {
			if x.Kind != api.DcLet {
				less = append(less, x)
			}
		}
		if s2, diag2 := Check(less); diag2 != diag || !alike(s, s2) {
			t.Fatal(l, diag, diag2)
		}
	}
	many := slices.Repeat([]api.Decl{{Kind: api.DcLet}}, 5000)
	l := slices.Concat(many, base(), many)
	asModel(t, l)
	if s, diag := Check(l); diag.E != api.OK || len(s.Datas) != 12 {
		t.Error(diag)
	}
}
