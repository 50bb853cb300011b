package data

import (
	"fmt"
	"reflect"
	"runtime/debug"
	"slices"
	"testing"

	"usufruct/api"
)

// mayAsModel holds May against the model.
func mayAsModel(t *testing.T, s api.Sig) bool {
	t.Helper()
	was := clone(s)
	if e := May(s); e != modelMay(s) || !alike(s, was) {
		t.Errorf("%d of %v", e, s)
		return false
	}
	return true
}

// sigs is signatures that may be.
func sigs() []api.Sig {
	s, d := Check(base())
	small, dSmall := Check(declared("data T = A"))
	if d.E != api.OK || dSmall.E != api.OK {
		panic("no signature")
	}
	own := api.Sig{Datas: []api.Data{{Name: "T", Params: 4, Cons: []int{1}}, {Name: "U", Cons: []int{0, 2}}}}
	v := func(n int) api.Type { return param(n) }
	fun := api.Type{Kind: api.TFun, M: api.Mu{C: api.Many}, L: []api.Type{v(3), of(api.TArr, 0, v(0))}}
	own.Cons = []api.Con{
		{Name: "B", Data: 1},
		{Name: "A", Data: 0, Fields: []api.Type{of(api.TData, 0, v(1), v(2), v(3), of(api.TData, 1)), fun}, Mults: []api.Mult{1, 3}},
		{Name: "", Data: 1, Fields: []api.Type{of(api.TStr, 0)}, Mults: []api.Mult{2}},
	}
	return []api.Sig{{}, Given(), small, s, own}
}

// spoil hands f each way to put something else into one place of v, once.
func spoil(v reflect.Value, f func(where string)) {
	was := reflect.New(v.Type()).Elem()
	was.Set(v)
	set := func(what any) {
		v.Set(reflect.ValueOf(what).Convert(v.Type()))
		f(fmt.Sprint(v.Type(), " ", what))
		v.Set(was)
	}
	switch v.Kind() {
	case reflect.Struct:
		for i := range v.NumField() {
			spoil(v.Field(i), f)
		}
	case reflect.Int:
		for _, n := range []int{-1 << 63, -1, 0, 1, 2, 3, 4, 5, 14, 15, 39, 40, 1 << 20, 1<<63 - 1} {
			set(n)
		}
	case reflect.Uint8:
		for n := range 11 {
			set(n)
		}
		set(255)
	case reflect.String:
		for _, s := range []string{"", "T", "A", "B", "Nil", "List", "Int", "new"} {
			set(s)
		}
	case reflect.Slice:
		for i := range v.Len() {
			spoil(v.Index(i), f)
		}
		set(reflect.Zero(v.Type()).Interface())
		if v.Len() > 0 {
			set(v.Slice(0, v.Len()-1).Interface())
			set(v.Slice(1, v.Len()).Interface())
		}
		for _, x := range []reflect.Value{reflect.Zero(v.Type().Elem()), last(v)} {
			l := reflect.MakeSlice(v.Type(), v.Len(), v.Len()+1)
			reflect.Copy(l, v)
			set(reflect.Append(l, x).Interface())
		}
	}
}

// last is the last one of v, a zero one without any.
func last(v reflect.Value) reflect.Value {
	if v.Len() == 0 {
		return reflect.Zero(v.Type().Elem())
	}
	return v.Index(v.Len() - 1)
}

// TestP133May: signatures that may be, and each place of them being something else.
func TestP133May(t *testing.T) {
	for i, s := range sigs() {
		if May(s) != api.OK || !mayAsModel(t, s) {
			t.Fatal(i, s)
		}
		told := map[api.Errno]int{}
		spoil(reflect.ValueOf(&s).Elem(), func(where string) {
			if !mayAsModel(t, s) {
				t.Fatal(i, where)
			}
			told[May(s)]++
		})
		if i > 0 && (told[api.OK] < 20 || told[api.ErrArg] < 200) {
			t.Error(i, told)
		}
	}
}

// TestP133MayTwo: two places of a small one being something else.
func TestP133MayTwo(t *testing.T) {
	s := sigs()[4]
	n := 0
	spoil(reflect.ValueOf(&s).Elem(), func(where string) {
		if n++; n%3 != 0 {
			return
		}
		spoilt := clone(s)
		spoil(reflect.ValueOf(&spoilt).Elem(), func(second string) {
			if !mayAsModel(t, spoilt) {
				t.Fatal(where, second)
			}
		})
	})
}

// wide is a signature of so many data types, each of so many constructors, with so many parameters and fields.
func wide(datas, cons, params, fields int) api.Sig {
	var s api.Sig
	for d := range datas {
		s.Datas = append(s.Datas, api.Data{Name: fmt.Sprint("D", d), Params: params})
		for range cons {
			c := api.Con{Name: fmt.Sprint("C", len(s.Cons)), Data: d}
			for range fields {
				c.Fields = append(c.Fields, of(api.TInt, 0))
				c.Mults = append(c.Mults, api.Affine)
			}
			s.Datas[d].Cons = append(s.Datas[d].Cons, len(s.Cons))
			s.Cons = append(s.Cons, c)
		}
	}
	return s
}

// TestP133MayLimits: as many as there may be, and one more.
func TestP133MayLimits(t *testing.T) {
	for _, c := range []struct {
		datas, cons, params, fields int
		want                        api.Errno
	}{
		{40, 1, 0, 0, api.OK}, {41, 1, 0, 0, api.ErrArg}, {40, 2, 4, 8, api.OK}, {10, 10, 0, 0, api.OK}, {1, 100, 0, 0, api.OK},
		{1, 101, 0, 0, api.ErrArg}, {1, 1, 5, 0, api.ErrArg}, {1, 1, -1, 0, api.ErrArg}, {1, 1, 4, 9, api.ErrArg}, {1, 0, 0, 0, api.ErrArg},
	} {
		s := wide(c.datas, c.cons, c.params, c.fields)
		if e := May(s); e != c.want {
			t.Error(c, e)
		}
		mayAsModel(t, s)
	}
	for n, want := range map[int]api.Errno{299: api.OK, 300: api.OK, 301: api.ErrArg, 302: api.ErrArg} {
		s := wide(1, 1, 0, 1)
		s.Cons[0].Fields[0] = arrays(n)
		if e := May(s); e != want {
			t.Error(n, e)
		}
		mayAsModel(t, s)
	}
}

// arrays is a type of n nodes.
func arrays(n int) api.Type {
	x := of(api.TInt, 0)
	for range n - 1 {
		x = of(api.TArr, 0, x)
	}
	return x
}

// fieldsAsModel holds Fields against the model, and says which error is told.
func fieldsAsModel(t *testing.T, s api.Sig, con int, args []api.Type) api.Errno {
	t.Helper()
	wasS, wasArgs := clone(s), clone(args)
	l, e := Fields(s, con, args)
	if want, wantE := modelFields(s, con, args); e != wantE || !alike(l, want) || e != api.OK && l != nil {
		t.Fatalf("of %d, %v: %d %v", con, args, e, l)
	}
	if !alike(s, wasS) || !alike(args, wasArgs) {
		t.Fatal("changed", con, args)
	}
	return e
}

// args is types that may be: without variables and with some, which the parameters' numbers are, too.
func args() []api.Type {
	fun := api.Type{Kind: api.TFun, M: api.Mu{V: 1}, L: []api.Type{param(1), param(0)}}
	return []api.Type{of(api.TInt, 0), param(0), param(1), param(api.MaxVars - 1), fun, of(api.TData, 39, fun), of(api.TArr, 0, of(api.TData, 2, param(3), fun))}
}

// TestP134Fields: each constructor with arguments that may be, as many as there must be, and other numbers of them.
func TestP134Fields(t *testing.T) {
	told := map[api.Errno]int{}
	for _, s := range sigs() {
		for con := -2; con < len(s.Cons)+2; con++ {
			for n := range 6 {
				for i := range args() {
					l := slices.Concat(args()[i:], args())[:n]
					told[fieldsAsModel(t, s, con, l)]++
				}
			}
		}
		for _, con := range []int{-1 << 63, 1<<63 - 1} {
			told[fieldsAsModel(t, s, con, nil)]++
		}
	}
	if told[api.OK] < 100 || told[api.ErrArg] < 100 || len(told) != 2 {
		t.Error(told)
	}
}

// TestP134Wrong: arguments that are no types, and signatures that may not be.
func TestP134Wrong(t *testing.T) {
	for _, s := range sigs()[1:] {
		for con, c := range s.Cons {
			l := slices.Clone(args()[:s.Datas[c.Data].Params])
			spoil(reflect.ValueOf(&l).Elem(), func(where string) { fieldsAsModel(t, s, con, l) })
			for i := range l {
				was := l[i]
				for _, n := range []int{298, 299, 300, 301, 302} {
					l[i] = arrays(n)
					e := fieldsAsModel(t, s, con, l)
					if n > 300 && e != api.ErrArg {
						t.Error(n, e)
					}
				}
				l[i] = was
			}
		}
	}
	s := sigs()[4]
	spoil(reflect.ValueOf(&s).Elem(), func(where string) {
		for con := range 3 {
			for _, n := range []int{0, 4} {
				if e := fieldsAsModel(t, s, con, args()[:n]); May(s) != api.OK && e != api.ErrArg {
					t.Error(where, e)
				}
			}
		}
	})
}

// TestP134MaxType: fields of MaxType nodes, and of one more, with their arguments.
func TestP134MaxType(t *testing.T) {
	s, d := Check(declared("data T a b = A 1 Int ? (Arr a) * (b -1> (List a -1> b)) 1 b"))
	if d.E != api.OK {
		t.Fatal(d)
	}
	for _, c := range []struct {
		a, b int
		want api.Errno
	}{{299, 1, api.ErrLong}, {294, 1, api.OK}, {295, 1, api.OK}, {296, 1, api.ErrLong}, {1, 148, api.OK}, {1, 149, api.ErrLong}, {1, 147, api.OK}, {300, 300, api.ErrLong}, {1, 300, api.ErrLong}, {301, 1, api.ErrArg}} {
		if e := fieldsAsModel(t, s, 15, []api.Type{arrays(c.a), arrays(c.b)}); e != c.want {
			t.Error(c, e)
		}
	}
	if e := fieldsAsModel(t, s, api.CnPair, []api.Type{arrays(300), arrays(300)}); e != api.OK {
		t.Error(e)
	}
	if e := fieldsAsModel(t, s, api.CnNil, []api.Type{arrays(300)}); e != api.OK {
		t.Error(e)
	}
	if e := fieldsAsModel(t, s, api.CnCons, []api.Type{arrays(300)}); e != api.ErrLong {
		t.Error(e)
	}
}

// lists is where each list of what v has begins and ends, with all that it has room for.
func lists(v reflect.Value) [][2]uintptr {
	var all [][2]uintptr
	switch v.Kind() {
	case reflect.Struct:
		for i := range v.NumField() {
			all = append(all, lists(v.Field(i))...)
		}
	case reflect.Slice:
		if v.Cap() > 0 {
			all = append(all, [2]uintptr{v.Pointer(), v.Pointer() + uintptr(v.Cap())*v.Type().Elem().Size()})
		}
		for i := range v.Len() {
			all = append(all, lists(v.Index(i))...)
		}
	}
	return all
}

// apart says whether no two lists of l share memory.
func apart(l ...any) bool {
	var all [][2]uintptr
	for _, x := range l {
		all = append(all, lists(reflect.ValueOf(x))...)
	}
	slices.SortFunc(all, func(a, b [2]uintptr) int { return int(a[0]) - int(b[0]) })
	for i := 1; i < len(all); i++ {
		if all[i][0] < all[i-1][1] {
			return false
		}
	}
	return true
}

// TestR3NewMemory: no two lists of answers share memory, and none does with what was handed in.
func TestR3NewMemory(t *testing.T) {
	if !apart(Given(), Given()) {
		t.Error("given")
	}
	d := &dice{n: 3}
	for range 500 {
		l := d.sown(1000)
		a, _ := Check(l)
		b, _ := Check(l)
		if !apart(a, b) || !apart(l, a) {
			t.Fatal(l)
		}
	}
	for _, s := range sigs() {
		for con, c := range s.Cons {
			l := clone(args()[3 : 3+s.Datas[c.Data].Params])
			a, e := Fields(s, con, l)
			b, _ := Fields(s, con, l)
			if e != api.OK || !apart(s, l, a, b) {
				t.Fatal(con)
			}
		}
	}
	// One list that stands in several places of what is handed in.
	int1 := []api.Ty{{Kind: api.TyCon, S: "Int"}}
	arr := api.Ty{Kind: api.TyCon, S: "Arr", L: int1}
	s, diag := Check(inFields(arr, arr, api.Ty{Kind: api.TyFun, M: 1, L: []api.Ty{arr, arr}}))
	if diag.E != api.OK || !apart(s) {
		t.Error(diag)
	}
	same := arrays(3)
	l, e := Fields(s, api.CnPair, []api.Type{same, same})
	if e != api.OK || !apart(same, l) {
		t.Error(e)
	}
}

// TestR1Deep: types that are deeper than calls go, lists of very many.
func TestR1Deep(t *testing.T) {
	defer debug.SetMaxStack(debug.SetMaxStack(1 << 23))
	const n = 1 << 18
	leaf := api.Ty{Kind: api.TyCon, S: "Int", At: api.Pos{At: 9}}
	x, wrong, left := leaf, api.Ty{Kind: api.TyName, S: "q", At: api.Pos{At: 11}}, leaf
	deep := of(api.TInt, 0)
	for range n {
		x = api.Ty{Kind: api.TyCon, S: "Arr", L: []api.Ty{x}}
		wrong = api.Ty{Kind: api.TyCon, S: "List", L: []api.Ty{wrong}}
		left = api.Ty{Kind: api.TyFun, M: 1, L: []api.Ty{left, leaf}}
		deep = of(api.TArr, 0, deep)
	}
	tooLong := api.Diag{E: api.ErrLong, At: api.Pos{At: 7}}
	unknown := api.Diag{E: api.ErrUnknown, At: api.Pos{At: 11}}
	for i, c := range []struct {
		l    []api.Decl
		want api.Diag
	}{{inFields(x), tooLong}, {inFields(leaf, left, wrong), tooLong}, {inFields(leaf, wrong), unknown}, {inFields(api.Ty{Kind: api.TyFun, M: 1, L: []api.Ty{left, wrong}}), unknown}} {
		if _, d := Check(c.l); d != c.want {
			t.Error(i, d)
		}
	}
	many := inFields(slices.Repeat([]api.Ty{leaf}, n)...)
	if _, d := Check(many); d != tooLong {
		t.Error(d)
	}
	params := inFields(leaf)
	params[0].Params = nil
	for i := range n {
		params[0].Params = append(params[0].Params, fmt.Sprint(i))
	}
	if _, d := Check(params); d != (api.Diag{E: api.ErrLong, At: api.Pos{At: 5}}) {
		t.Error(d)
	}
	kids := leaf
	kids.L = slices.Repeat([]api.Ty{leaf}, n)
	if _, d := Check(inFields(kids)); d != (api.Diag{E: api.ErrArity, At: api.Pos{At: 9}}) {
		t.Error(d)
	}
	s := wide(1, 1, 1, 1)
	if _, e := Fields(s, 0, []api.Type{deep}); e != api.ErrArg {
		t.Error(e)
	}
	s.Cons[0].Fields[0] = deep
	if e := May(s); e != api.ErrArg {
		t.Error(e)
	}
}

// TestR1WithinItself: what stands in itself, or doubles often, has too many nodes, and its errors go ahead of that.
func TestR1WithinItself(t *testing.T) {
	tooLong := api.Diag{E: api.ErrLong, At: api.Pos{At: 7}}
	self := api.Ty{Kind: api.TyCon, S: "Pair", L: make([]api.Ty, 2)}
	self.L[0], self.L[1] = self, self
	if _, d := Check(inFields(self)); d != tooLong {
		t.Error(d)
	}
	for n := range 60 {
		wrong := api.Ty{Kind: api.TyName, S: "q", At: api.Pos{At: 11}}
		x, y := api.Ty{Kind: api.TyName, S: "a"}, wrong
		for range n {
			x = api.Ty{Kind: api.TyFun, M: 1, L: []api.Ty{x, x}}
			y = api.Ty{Kind: api.TyFun, M: 1, L: []api.Ty{x, y}}
		}
		want := api.Diag{}
		if n > 7 {
			want = tooLong
		}
		if _, d := Check(inFields(x)); d != want {
			t.Error(n, d)
		}
		if _, d := Check(inFields(y)); d != (api.Diag{E: api.ErrUnknown, At: wrong.At}) {
			t.Error(n, d)
		}
	}
	inner := of(api.TArr, 0, of(api.TInt, 0))
	inner.L[0] = inner
	s := wide(1, 1, 1, 1)
	if _, e := Fields(s, 0, []api.Type{inner}); e != api.ErrArg {
		t.Error(e)
	}
	s.Cons[0].Fields[0] = inner
	if e := May(s); e != api.ErrArg {
		t.Error(e)
	}
}
