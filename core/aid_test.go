package core

import (
	"fmt"
	"reflect"
	"slices"

	"usufruct/api"
	"usufruct/data"
	"usufruct/parse"
)

// declared is the declarations of a text.
func declared(s string) []api.Decl {
	l, d := parse.Parse(s)
	if d.E != api.OK {
		panic(fmt.Sprint(s, d))
	}
	return l
}

// sigOf is the signature of a text.
func sigOf(s string) api.Sig {
	sig, d := data.Check(declared(s))
	if d.E != api.OK {
		panic(fmt.Sprint(s, d))
	}
	return sig
}

// resolved is the program of a text.
func resolved(s string) api.Prog {
	p, d := Resolve(declared(s), sigOf(s))
	if d.E != api.OK {
		panic(fmt.Sprint(s, d))
	}
	return p
}

// clone is x with lists of its own.
func clone[T any](x T) T {
	c := reflect.New(reflect.TypeOf(x)).Elem()
	c.Set(reflect.ValueOf(x))
	each(c, func(v reflect.Value) {
		if v.Kind() == reflect.Slice && !v.IsNil() {
			l := reflect.MakeSlice(v.Type(), v.Len(), v.Len())
			reflect.Copy(l, v)
			v.Set(l)
		}
	})
	return c.Interface().(T)
}

// each hands f all that v has, itself first.
func each(v reflect.Value, f func(reflect.Value)) {
	f(v)
	switch v.Kind() {
	case reflect.Struct:
		for i := range v.NumField() {
			each(v.Field(i), f)
		}
	case reflect.Slice:
		for i := range v.Len() {
			each(v.Index(i), f)
		}
	}
}

// alike says whether a and b are the same; no list and an empty one are.
func alike[T any](a, b T) bool {
	a, b = clone(a), clone(b)
	for _, x := range []*T{&a, &b} {
		each(reflect.ValueOf(x).Elem(), func(v reflect.Value) {
			if v.Kind() == reflect.Slice && v.Len() == 0 {
				v.SetZero()
			}
		})
	}
	return reflect.DeepEqual(a, b)
}

// apart says whether no two lists of l share memory, with all that they have room for.
func apart(l ...any) bool {
	var all [][2]uintptr
	for _, x := range l {
		c := reflect.New(reflect.TypeOf(x)).Elem()
		c.Set(reflect.ValueOf(x))
		each(c, func(v reflect.Value) {
			if v.Kind() == reflect.Slice && v.Cap() > 0 {
				all = append(all, [2]uintptr{v.Pointer(), v.Pointer() + uintptr(v.Cap())*v.Type().Elem().Size()})
			}
		})
	}
	slices.SortFunc(all, func(a, b [2]uintptr) int { return int(a[0]) - int(b[0]) })
	for i := 1; i < len(all); i++ {
		if all[i][0] < all[i-1][1] {
			return false
		}
	}
	return true
}

// spoil hands f each way to put something else into one place of v, once.
func spoil(v reflect.Value, f func(where string)) {
	if v.Type() == reflect.TypeOf(api.Pos{}) {
		return // of no account
	}
	was := reflect.New(v.Type()).Elem()
	was.Set(v)
	set := func(what reflect.Value) {
		v.Set(what.Convert(v.Type()))
		f(fmt.Sprint(v.Type(), " ", what))
		v.Set(was)
	}
	switch v.Kind() {
	case reflect.Struct:
		for i := range v.NumField() {
			spoil(v.Field(i), f)
		}
	case reflect.Bool:
		set(reflect.ValueOf(!v.Bool()))
	case reflect.Int:
		for _, n := range []int{-1 << 63, -1, 0, 1, 2, 3, 4, 5, 14, 15, 17, 18, 19, 1 << 20, 1<<20 + 1, 1<<63 - 1} {
			set(reflect.ValueOf(n))
		}
	case reflect.Int64:
		set(reflect.ValueOf(v.Int() - 7))
	case reflect.Uint8:
		for n := range 14 {
			set(reflect.ValueOf(n))
		}
		set(reflect.ValueOf(255))
	case reflect.String:
		for _, s := range []string{"", "x", "y", "f", "Pair", "Nil", "T", "A", "open", "close", "+", "new"} {
			set(reflect.ValueOf(s))
		}
	case reflect.Slice:
		for i := range v.Len() {
			spoil(v.Index(i), f)
		}
		set(reflect.Zero(v.Type()))
		first, last := reflect.Zero(v.Type().Elem()), reflect.Zero(v.Type().Elem())
		if n := v.Len(); n > 0 {
			set(v.Slice(0, n-1))
			set(v.Slice(1, n))
			first, last = v.Index(0), v.Index(n-1)
		}
		for _, x := range []reflect.Value{reflect.Zero(v.Type().Elem()), first, last} {
			l := reflect.MakeSlice(v.Type(), v.Len(), v.Len()+1)
			reflect.Copy(l, v)
			set(reflect.Append(l, x))
		}
	}
}

// placed is l with another place for each thing that has one.
func placed(l []api.Decl) []api.Decl {
	l = clone(l)
	n := 0
	each(reflect.ValueOf(&l).Elem(), func(v reflect.Value) {
		if v.Type() == reflect.TypeOf(api.Pos{}) {
			n++
			v.Set(reflect.ValueOf(api.Pos{At: 10 * n, Line: n, Col: 7 * n}))
		}
	})
	return l
}

// dice is a row of numbers, the same each time.
type dice struct{ n uint64 }

func (d *dice) below(k int) int {
	d.n = d.n*6364136223846793005 + 1442695040888963407
	return int(d.n >> 33 % uint64(k))
}

// one is one of l.
func one[T any](d *dice, l ...T) T { return l[d.below(len(l))] }

// said is c in one line.
func said(c api.Core) string {
	s := map[uint8]string{api.CoVar: "v", api.CoTop: "t", api.CoInt: "i", api.CoStr: "s", api.CoLam: "lam", api.CoApp: "app", api.CoLet: "let", api.CoRec: "rec", api.CoCon: "con", api.CoCase: "case", api.CoPrim: "prim"}[c.Kind]
	switch c.Kind {
	case api.CoInt:
		s += fmt.Sprint(c.I)
	case api.CoStr:
		s += fmt.Sprintf("%q", c.S)
	case api.CoApp, api.CoCase:
	default:
		s += fmt.Sprint(c.N)
	}
	for _, x := range c.L {
		s += " (" + said(x) + ")"
	}
	for _, a := range c.Arms {
		s += "; " + saidPat(a.P) + ": " + said(a.E)
	}
	return s
}

func saidPat(p api.CPat) string {
	s := ""
	switch p.Kind {
	case api.PtName:
		s = fmt.Sprint("v", p.N)
	case api.PtAny:
		s = "_"
	case api.PtInt:
		s = fmt.Sprint(p.I)
	case api.PtStr:
		s = fmt.Sprintf("%q", p.S)
	case api.PtCon:
		s = fmt.Sprint("con", p.N)
	}
	for _, x := range p.L {
		s += " (" + saidPat(x) + ")"
	}
	return s
}
