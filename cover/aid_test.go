package cover

import (
	"fmt"
	"reflect"
	"slices"
	"strings"

	"usufruct/api"
)

// The signature that most tests have: of each data type its constructors, of each of them how many fields.
const (
	cFalse = iota
	cTrue
	cNil
	cCons
	cPair
	cA
	cB
	cC
)

func baseSig() api.Sig {
	return sigOf([]int{0, 0}, []int{0, 2}, []int{2}, []int{0, 1, 3})
}

// sigOf is a signature: of each data type, of each of its constructors how many fields it has.
func sigOf(l ...[]int) api.Sig {
	var g api.Sig
	for i, cons := range l {
		d := api.Data{Name: fmt.Sprint("T", i)}
		for _, k := range cons {
			d.Cons = append(d.Cons, len(g.Cons))
			g.Cons = append(g.Cons, api.Con{Name: fmt.Sprint("C", len(g.Cons)), Data: i, Fields: make([]api.Type, k), Mults: make([]api.Mult, k)})
		}
		g.Datas = append(g.Datas, d)
	}
	return g
}

func pAny() api.CPat                      { return api.CPat{Kind: api.PtAny} }
func pName(n int) api.CPat                { return api.CPat{Kind: api.PtName, N: n} }
func pInt(n int64) api.CPat               { return api.CPat{Kind: api.PtInt, I: n} }
func pStr(s string) api.CPat              { return api.CPat{Kind: api.PtStr, S: s} }
func pCon(n int, l ...api.CPat) api.CPat  { return api.CPat{Kind: api.PtCon, N: n, L: l} }
func vInt(n int64) api.Val                { return api.Val{Kind: api.WInt, N: n} }
func vStr(s string) api.Val               { return api.Val{Kind: api.WStr, S: s} }
func vCon(n int64, l ...api.Val) api.Val  { return api.Val{Kind: api.VCon, N: n, L: l} }
func wCon(n int64) api.Val                { return api.Val{Kind: api.WCon, N: n} }
func list(l ...api.CPat) []api.CPat       { return l }
func rows(l ...[]api.CPat) (r []api.CPat) { return slices.Concat(l...) }
func pairOf(p, q api.CPat) api.CPat       { return pCon(cPair, p, q) }
func consOf(p, q api.CPat) api.CPat       { return pCon(cCons, p, q) }
func threeOf(p, q, r api.CPat) api.CPat   { return pCon(cC, p, q, r) }
func said(l ...api.CPat) string           { return strings.Join(texts(l), ", ") }
func texts(l []api.CPat) (r []string) {
	for _, p := range l {
		r = append(r, saidPat(p))
	}
	return r
}

func saidPat(p api.CPat) string {
	s := fmt.Sprint("?", p.Kind)
	switch p.Kind {
	case api.PtName:
		s = fmt.Sprint("v", p.N)
	case api.PtAny:
		s = "_"
	case api.PtInt:
		s = fmt.Sprint(p.I)
	case api.PtStr:
		s = fmt.Sprintf("%q", p.S)
	case api.PtCon:
		s = fmt.Sprint("C", p.N)
	}
	for _, x := range p.L {
		s += " (" + saidPat(x) + ")"
	}
	return s
}

// clone is x with lists of its own.
func clone[T any](x T) T {
	c := reflect.New(reflect.TypeOf(x)).Elem()
	c.Set(reflect.ValueOf(x))
	each(c, func(v reflect.Value) {
		if v.Kind() == reflect.Slice && !v.IsNil() {
			l := reflect.MakeSlice(v.Type(), v.Len(), v.Len())
			reflect.Copy(l, v)
			v.Set(l)
		}
	})
	return c.Interface().(T)
}

// each hands f all that v has, itself first.
func each(v reflect.Value, f func(reflect.Value)) {
	f(v)
	switch v.Kind() {
	case reflect.Struct:
		for i := range v.NumField() {
			each(v.Field(i), f)
		}
	case reflect.Slice:
		for i := range v.Len() {
			each(v.Index(i), f)
		}
	}
}

// alike says whether a and b are the same; no list and an empty one are.
func alike[T any](a, b T) bool {
	a, b = clone(a), clone(b)
	for _, x := range []*T{&a, &b} {
		each(reflect.ValueOf(x).Elem(), func(v reflect.Value) {
			if v.Kind() == reflect.Slice && v.Len() == 0 {
				v.SetZero()
			}
		})
	}
	return reflect.DeepEqual(a, b)
}

// alone says whether no two lists of l share memory, with all that they have room for.
func alone(l ...any) bool {
	var all [][2]uintptr
	for _, x := range l {
		c := reflect.New(reflect.TypeOf(x)).Elem()
		c.Set(reflect.ValueOf(x))
		each(c, func(v reflect.Value) {
			if v.Kind() == reflect.Slice && v.Cap() > 0 {
				all = append(all, [2]uintptr{v.Pointer(), v.Pointer() + uintptr(v.Cap())*v.Type().Elem().Size()})
			}
		})
	}
	slices.SortFunc(all, func(a, b [2]uintptr) int { return int(a[0]) - int(b[0]) })
	for i := 1; i < len(all); i++ {
		if all[i][0] < all[i-1][1] {
			return false
		}
	}
	return true
}

// spoil hands f each way to put something else into one place of v, once.
func spoil(v reflect.Value, f func(where string)) {
	was := reflect.New(v.Type()).Elem()
	was.Set(v)
	set := func(what reflect.Value) {
		v.Set(what.Convert(v.Type()))
		f(fmt.Sprint(v.Type(), " ", what))
		v.Set(was)
	}
	switch v.Kind() {
	case reflect.Struct:
		for i := range v.NumField() {
			spoil(v.Field(i), f)
		}
	case reflect.Int, reflect.Int64:
		for _, n := range []int64{-1 << 63, -1, 0, 1, 2, 3, 4, 5, 6, 7, 8, 9, 1 << 20, 1 << 32, 1<<63 - 1} {
			set(reflect.ValueOf(n))
		}
	case reflect.Uint8:
		for n := range 15 {
			set(reflect.ValueOf(n))
		}
		set(reflect.ValueOf(255))
	case reflect.String:
		for _, s := range []string{"", "x", "y", "\x00"} {
			set(reflect.ValueOf(s))
		}
	case reflect.Slice:
		for i := range v.Len() {
			spoil(v.Index(i), f)
		}
		set(reflect.Zero(v.Type()))
		first, last := reflect.Zero(v.Type().Elem()), reflect.Zero(v.Type().Elem())
		if n := v.Len(); n > 0 {
			set(v.Slice(0, n-1))
			set(v.Slice(1, n))
			first, last = v.Index(0), v.Index(n-1)
		}
		for _, x := range []reflect.Value{reflect.Zero(v.Type().Elem()), first, last} {
			l := reflect.MakeSlice(v.Type(), v.Len(), v.Len()+1)
			reflect.Copy(l, v)
			set(reflect.Append(l, x))
		}
	}
}

// dice is a row of numbers, the same each time.
type dice struct{ n uint64 }

func (d *dice) below(k int) int {
	d.n = d.n*6364136223846793005 + 1442695040888963407
	return int(d.n >> 33 % uint64(k))
}

// one is one of l.
func one[T any](d *dice, l ...T) T { return l[d.below(len(l))] }

// sower sows patterns that go together: at each place it has settled what may stand there.
type sower struct {
	*dice
	g    api.Sig
	sort map[string]int // a data type, -1 of numbers, -2 of texts, -3 of neither
	wild int            // how many of ten ask nothing
}

func (s *sower) pat(at string, depth int) api.CPat {
	if _, ok := s.sort[at]; !ok {
		s.sort[at] = s.below(len(s.g.Datas)+2) - 2
		if n := s.sort[at]; n >= 0 && len(s.g.Datas[n].Cons) == 0 {
			s.sort[at] = -3
		}
	}
	if s.below(10) < s.wild || s.sort[at] == -3 {
		return one(s.dice, pAny(), pName(s.below(5)-2))
	}
	switch n := s.sort[at]; n {
	case -1:
		return pInt(int64(s.below(3)))
	case -2:
		return pStr(one(s.dice, "", "0", "x"))
	default:
		c := one(s.dice, s.g.Datas[n].Cons...)
		p := pCon(c)
		for i := range s.g.Cons[c].Fields {
			if depth == 0 {
				p.L = append(p.L, pAny())
			} else {
				p.L = append(p.L, s.pat(fmt.Sprint(at, " ", c, ".", i), depth-1))
			}
		}
		return p
	}
}

// sownSig is a small signature, its constructors in any order.
func (d *dice) sownSig() api.Sig {
	var g api.Sig
	for range 1 + d.below(3) {
		g.Datas = append(g.Datas, api.Data{})
	}
	for range d.below(7) {
		n := d.below(len(g.Datas))
		at := d.below(len(g.Datas[n].Cons) + 1)
		g.Datas[n].Cons = slices.Insert(g.Datas[n].Cons, at, len(g.Cons))
		g.Cons = append(g.Cons, api.Con{Data: n, Fields: make([]api.Type, d.below(4))})
	}
	return g
}

// sown is a signature and a list that goes together.
func (d *dice) sown() (api.Sig, []api.CPat) {
	s := &sower{dice: d, g: d.sownSig(), sort: map[string]int{}, wild: 1 + d.below(6)}
	depth := d.below(4)
	var l []api.CPat
	for range d.below(9) {
		l = append(l, s.pat("", depth))
	}
	return s.g, l
}
