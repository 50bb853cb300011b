package tree

import (
	"fmt"
	"reflect"
	"slices"
	"strings"

	"usufruct/api"
)

// The signature that most tests have: of each data type its constructors, of each of them how many fields.
const (
	cFalse = iota
	cTrue
	cNil
	cCons
	cPair
	cA
	cB
	cC
)

func baseSig() api.Sig {
	return sigOf([]int{0, 0}, []int{0, 2}, []int{2}, []int{0, 1, 3})
}

// sigOf is a signature: of each data type, of each of its constructors how many fields it has.
func sigOf(l ...[]int) api.Sig {
	var g api.Sig
	for i, cons := range l {
		d := api.Data{Name: fmt.Sprint("T", i)}
		for _, k := range cons {
			d.Cons = append(d.Cons, len(g.Cons))
			g.Cons = append(g.Cons, api.Con{Name: fmt.Sprint("C", len(g.Cons)), Data: i, Fields: make([]api.Type, k), Mults: make([]api.Mult, k)})
		}
		g.Datas = append(g.Datas, d)
	}
	return g
}

func pAny() api.CPat                     { return api.CPat{Kind: api.PtAny} }
func pName(n int) api.CPat               { return api.CPat{Kind: api.PtName, N: n} }
func pInt(n int64) api.CPat              { return api.CPat{Kind: api.PtInt, I: n} }
func pStr(s string) api.CPat             { return api.CPat{Kind: api.PtStr, S: s} }
func pCon(n int, l ...api.CPat) api.CPat { return api.CPat{Kind: api.PtCon, N: n, L: l} }
func vInt(n int64) api.Val               { return api.Val{Kind: api.WInt, N: n} }
func vStr(s string) api.Val              { return api.Val{Kind: api.WStr, S: s} }
func vCon(n int64, l ...api.Val) api.Val { return api.Val{Kind: api.VCon, N: n, L: l} }
func wCon(n int64) api.Val               { return api.Val{Kind: api.WCon, N: n} }
func list(l ...api.CPat) []api.CPat      { return l }
func pairOf(p, q api.CPat) api.CPat      { return pCon(cPair, p, q) }
func consOf(p, q api.CPat) api.CPat      { return pCon(cCons, p, q) }
func threeOf(p, q, r api.CPat) api.CPat  { return pCon(cC, p, q, r) }
func said(l ...api.CPat) string          { return strings.Join(texts(l), ", ") }
func texts(l []api.CPat) (r []string) {
	for _, p := range l {
		r = append(r, saidPat(p))
	}
	return r
}

func saidPat(p api.CPat) string {
	s := fmt.Sprint("?", p.Kind)
	switch p.Kind {
	case api.PtName:
		s = fmt.Sprint("v", p.N)
	case api.PtAny:
		s = "_"
	case api.PtInt:
		s = fmt.Sprint(p.I)
	case api.PtStr:
		s = fmt.Sprintf("%q", p.S)
	case api.PtCon:
		s = fmt.Sprint("C", p.N)
	}
	for _, x := range p.L {
		s += " (" + saidPat(x) + ")"
	}
	return s
}

func arm(n int) api.Tree { return api.Tree{Kind: api.TrArm, N: n} }
func none() api.Tree     { return api.Tree{Kind: api.TrNone} }

func look(path []int, cases []api.Branch, other ...api.Tree) api.Tree {
	return api.Tree{Kind: api.TrLook, Path: path, Cases: cases, Else: other}
}

func path(l ...int) []int                   { return l }
func cases(l ...api.Branch) []api.Branch    { return l }
func onCon(n int, t api.Tree) api.Branch    { return api.Branch{Kind: api.PtCon, N: n, T: t} }
func onInt(n int64, t api.Tree) api.Branch  { return api.Branch{Kind: api.PtInt, I: n, T: t} }
func onStr(s string, t api.Tree) api.Branch { return api.Branch{Kind: api.PtStr, S: s, T: t} }
func bind(n int, path ...int) api.Bind      { return api.Bind{N: n, Path: path} }

// nodes is how many t has.
func nodes(t api.Tree) int {
	n := 1
	for _, c := range t.Cases {
		n += nodes(c.T)
	}
	for _, x := range t.Else {
		n += nodes(x)
	}
	return n
}

// clone is x with lists of its own.
func clone[T any](x T) T {
	c := reflect.New(reflect.TypeOf(x)).Elem()
	c.Set(reflect.ValueOf(x))
	each(c, func(v reflect.Value) {
		if v.Kind() == reflect.Slice && !v.IsNil() {
			l := reflect.MakeSlice(v.Type(), v.Len(), v.Len())
			reflect.Copy(l, v)
			v.Set(l)
		}
	})
	return c.Interface().(T)
}

// each hands f all that v has, itself first.
func each(v reflect.Value, f func(reflect.Value)) {
	f(v)
	switch v.Kind() {
	case reflect.Struct:
		for i := range v.NumField() {
			each(v.Field(i), f)
		}
	case reflect.Slice:
		for i := range v.Len() {
			each(v.Index(i), f)
		}
	}
}

// alike says whether a and b are the same; no list and an empty one are.
func alike[T any](a, b T) bool {
	a, b = clone(a), clone(b)
	for _, x := range []*T{&a, &b} {
		each(reflect.ValueOf(x).Elem(), func(v reflect.Value) {
			if v.Kind() == reflect.Slice && v.Len() == 0 {
				v.SetZero()
			}
		})
	}
	return reflect.DeepEqual(a, b)
}

// alone says whether no two lists of l share memory, with all that they have room for.
func alone(l ...any) bool {
	var all [][2]uintptr
	for _, x := range l {
		c := reflect.New(reflect.TypeOf(x)).Elem()
		c.Set(reflect.ValueOf(x))
		each(c, func(v reflect.Value) {
			if v.Kind() == reflect.Slice && v.Cap() > 0 {
				all = append(all, [2]uintptr{v.Pointer(), v.Pointer() + uintptr(v.Cap())*v.Type().Elem().Size()})
			}
		})
	}
	slices.SortFunc(all, func(a, b [2]uintptr) int { return int(a[0]) - int(b[0]) })
	for i := 1; i < len(all); i++ {
		if all[i][0] < all[i-1][1] {
			return false
		}
	}
	return true
}

// spoil hands f each way to put something else into one place of v, once.
func spoil(v reflect.Value, f func(where string)) {
	was := reflect.New(v.Type()).Elem()
	was.Set(v)
	set := func(what reflect.Value) {
		v.Set(what.Convert(v.Type()))
		f(fmt.Sprint(v.Type(), " ", what))
		v.Set(was)
	}
	switch v.Kind() {
	case reflect.Struct:
		for i := range v.NumField() {
			spoil(v.Field(i), f)
		}
	case reflect.Int, reflect.Int64:
		for _, n := range []int64{-1 << 63, -1, 0, 1, 2, 3, 4, 5, 6, 7, 8, 9, 1 << 20, 1 << 32, 1<<63 - 1} {
			set(reflect.ValueOf(n))
		}
	case reflect.Uint8:
		for n := range 15 {
			set(reflect.ValueOf(n))
		}
		set(reflect.ValueOf(255))
	case reflect.String:
		for _, s := range []string{"", "x", "y", "\x00"} {
			set(reflect.ValueOf(s))
		}
	case reflect.Slice:
		for i := range v.Len() {
			spoil(v.Index(i), f)
		}
		set(reflect.Zero(v.Type()))
		first, last := reflect.Zero(v.Type().Elem()), reflect.Zero(v.Type().Elem())
		if n := v.Len(); n > 0 {
			set(v.Slice(0, n-1))
			set(v.Slice(1, n))
			first, last = v.Index(0), v.Index(n-1)
		}
		for _, x := range []reflect.Value{reflect.Zero(v.Type().Elem()), first, last} {
			l := reflect.MakeSlice(v.Type(), v.Len(), v.Len()+1)
			reflect.Copy(l, v)
			set(reflect.Append(l, x))
		}
	}
}

// dice is a row of numbers, the same each time.
type dice struct{ n uint64 }

func (d *dice) below(k int) int {
	d.n = d.n*6364136223846793005 + 1442695040888963407
	return int(d.n >> 33 % uint64(k))
}

// one is one of l.
func one[T any](d *dice, l ...T) T { return l[d.below(len(l))] }

// sower sows patterns that go together: at each place it has settled what may stand there.
type sower struct {
	*dice
	g    api.Sig
	sort map[string]int // a data type, -1 of numbers, -2 of texts, -3 of neither
	wild int            // how many of ten ask nothing
}

func (s *sower) pat(at string, depth int) api.CPat {
	if _, ok := s.sort[at]; !ok {
		s.sort[at] = s.below(len(s.g.Datas)+2) - 2
		if n := s.sort[at]; n >= 0 && len(s.g.Datas[n].Cons) == 0 {
			s.sort[at] = -3
		}
	}
	if s.below(10) < s.wild || s.sort[at] == -3 {
		return one(s.dice, pAny(), pName(s.below(5)-2))
	}
	switch n := s.sort[at]; n {
	case -1:
		return pInt(int64(s.below(3)))
	case -2:
		return pStr(one(s.dice, "", "0", "x"))
	default:
		c := one(s.dice, s.g.Datas[n].Cons...)
		p := pCon(c)
		for i := range s.g.Cons[c].Fields {
			if depth == 0 {
				p.L = append(p.L, pAny())
			} else {
				p.L = append(p.L, s.pat(fmt.Sprint(at, " ", c, ".", i), depth-1))
			}
		}
		return p
	}
}

// sownSig is a small signature, its constructors in any order.
func (d *dice) sownSig() api.Sig {
	var g api.Sig
	for range 1 + d.below(3) {
		g.Datas = append(g.Datas, api.Data{})
	}
	for range d.below(7) {
		n := d.below(len(g.Datas))
		at := d.below(len(g.Datas[n].Cons) + 1)
		g.Datas[n].Cons = slices.Insert(g.Datas[n].Cons, at, len(g.Cons))
		g.Cons = append(g.Cons, api.Con{Data: n, Fields: make([]api.Type, d.below(4))})
	}
	return g
}

// sown is a signature and a list that goes together.
func (d *dice) sown() (api.Sig, []api.CPat) {
	s := &sower{dice: d, g: d.sownSig(), sort: map[string]int{}, wild: 1 + d.below(6)}
	depth := d.below(4)
	var l []api.CPat
	for range d.below(9) {
		l = append(l, s.pat("", depth))
	}
	return s.g, l
}

// sownWide is a list whose tree may have many nodes.
func (d *dice) sownWide() (api.Sig, []api.CPat) {
	s := &sower{dice: d, g: sigOf([]int{4}, []int{0, 0}, []int{0, 2}), sort: map[string]int{}, wild: 3 + d.below(4)}
	var l []api.CPat
	for range 8 {
		p := pCon(0)
		for i := range 4 {
			p.L = append(p.L, s.pat(fmt.Sprint(i), 2))
		}
		l = append(l, p)
	}
	return s.g, l
}

func isWild(p api.CPat) bool { return p.Kind == api.PtName || p.Kind == api.PtAny }

// fill is a value that goes with l.
func (d *dice) fill(g api.Sig, l []api.CPat) api.Val {
	i := slices.IndexFunc(l, func(p api.CPat) bool { return !isWild(p) })
	if i < 0 {
		return d.val(1)
	}
	switch l[i].Kind {
	case api.PtInt:
		return vInt(int64(d.below(5)))
	case api.PtStr:
		return vStr(one(d, "", "0", "x", "y", "1"))
	}
	n := one(d, g.Datas[g.Cons[l[i].N].Data].Cons...)
	if len(g.Cons[n].Fields) == 0 {
		return wCon(int64(n))
	}
	v := vCon(int64(n))
	for k := range g.Cons[n].Fields {
		var kids []api.CPat
		for _, p := range l {
			if p.Kind == api.PtCon && p.N == n {
				kids = append(kids, p.L[k])
			}
		}
		v.L = append(v.L, d.fill(g, kids))
	}
	return v
}

// val is any value.
func (d *dice) val(depth int) api.Val {
	v := api.Val{
		Kind: one(d, api.WInt, api.WInt, api.WStr, api.WStr, api.WCon, api.WCon, api.VCon, api.VCon, api.VCon, api.VCon, api.VFun, api.VArr, api.WFun, api.WFile, api.WIo, 0, 255),
		N:    int64(d.below(5) - 1),
		S:    one(d, "", "", "0", "x"),
	}
	for range d.below(4) {
		if depth > 0 {
			v.L = append(v.L, d.val(depth-1))
		}
	}
	return v
}

// pat is any pattern.
func (d *dice) pat(depth int) api.CPat {
	p := api.CPat{
		Kind: one(d, api.PtName, api.PtName, api.PtAny, api.PtInt, api.PtStr, api.PtCon, api.PtCon, api.PtCon, api.PtCon, 0, 6, 255),
		N:    d.below(5) - 1,
		I:    int64(d.below(5) - 1),
		S:    one(d, "", "", "0", "x"),
		At:   api.Pos{At: d.below(3)},
	}
	for range d.below(4) {
		if depth > 0 {
			p.L = append(p.L, d.pat(depth-1))
		}
	}
	return p
}

// path is any place, or what is none.
func (d *dice) path() []int {
	var l []int
	for range d.below(4) {
		l = append(l, one(d, 0, 0, 0, 0, 1, 1, 1, 2, 3, -1, -1<<63, 1<<63-1))
	}
	return l
}

// tree is any tree.
func (d *dice) tree(depth int) api.Tree {
	t := api.Tree{Kind: one(d, api.TrNone, api.TrArm, api.TrLook, api.TrLook, api.TrLook, api.TrLook, 0, 4, 255), N: d.below(5) - 2, Path: d.path()}
	if depth == 0 {
		return t
	}
	for range d.below(6) {
		t.Cases = append(t.Cases, api.Branch{
			Kind: one(d, api.PtInt, api.PtStr, api.PtCon, api.PtCon, api.PtName, api.PtAny, 0, 6, 255),
			N:    d.below(5) - 1,
			I:    int64(d.below(5) - 1),
			S:    one(d, "", "", "0", "x"),
			T:    d.tree(depth - 1),
		})
	}
	for range d.below(3) {
		t.Else = append(t.Else, d.tree(depth-1))
	}
	return t
}
