package data

import (
	"fmt"
	"reflect"
	"slices"
	"strings"
	"testing"

	"usufruct/api"
	"usufruct/parse"
	"usufruct/ty"
)

// declared is the declarations of a text.
func declared(s string) []api.Decl {
	l, d := parse.Parse(s)
	if d.E != api.OK {
		panic(fmt.Sprint(s, d))
	}
	return l
}

// clone is x with lists of its own.
func clone[T any](x T) T {
	c := reflect.New(reflect.TypeOf(x)).Elem()
	c.Set(reflect.ValueOf(x))
	own(c)
	return c.Interface().(T)
}

func own(v reflect.Value) {
	switch v.Kind() {
	case reflect.Struct:
		for i := range v.NumField() {
			own(v.Field(i))
		}
	case reflect.Slice:
		l := reflect.MakeSlice(v.Type(), v.Len(), v.Len())
		reflect.Copy(l, v)
		v.Set(l)
		for i := range v.Len() {
			own(v.Index(i))
		}
	}
}

// alike says whether a and b are the same; no list and an empty one are.
func alike[T any](a, b T) bool {
	return sameValue(reflect.ValueOf(a), reflect.ValueOf(b))
}

func sameValue(a, b reflect.Value) bool {
	switch a.Kind() {
	case reflect.Struct:
		for i := range a.NumField() {
			if !sameValue(a.Field(i), b.Field(i)) {
				return false
			}
		}
		return true
	case reflect.Slice:
		if a.Len() != b.Len() {
			return false
		}
		for i := range a.Len() {
			if !sameValue(a.Index(i), b.Index(i)) {
				return false
			}
		}
		return true
	}
	return a.Equal(b)
}

// asModel holds Check against the model.
func asModel(t *testing.T, l []api.Decl) bool {
	t.Helper()
	was := clone(l)
	s, d := Check(l)
	want, wantDiag := modelCheck(l)
	if d != wantDiag || !alike(s, want) {
		t.Errorf("%v\nis %v\n%v\nwanted %v\n%v", l, d, s, wantDiag, want)
		return false
	}
	if !alike(l, was) {
		t.Errorf("changed: %v", was)
		return false
	}
	if d.E != api.OK && (s.Datas != nil || s.Cons != nil) {
		t.Errorf("beside an error: %v", s)
		return false
	}
	return true
}

func names(s api.Sig) []string {
	var l []string
	for _, d := range s.Datas {
		l = append(l, d.Name)
	}
	return l
}

// said is s, a line each data type.
func said(s api.Sig) []string {
	var l []string
	for i, d := range s.Datas {
		line := fmt.Sprint(i, " ", d.Name, " ", d.Params, ":")
		for _, n := range d.Cons {
			c := s.Cons[n]
			line += fmt.Sprint(" ", n, " ", c.Name)
			if c.Data != i || len(c.Mults) != len(c.Fields) {
				line += "!"
			}
			for k, f := range c.Fields {
				line += fmt.Sprint(" ", c.Mults[k], " ", ty.Text(f, names(s)))
			}
			line += ";"
		}
		l = append(l, line)
	}
	return l
}

func givenSaid() []string {
	return []string{
		"0 Bool 0: 0 False; 1 True;",
		"1 Unit 0: 2 Unit;",
		"2 Pair 2: 3 Pair 1 a0 1 a1;",
		"3 List 1: 4 Nil; 5 Cons 1 a0 1 List a0;",
		"4 Opened 0: 6 Yes 1 File 1 Io; 7 No 1 Io;",
		"5 Read 0: 8 Line 3 Str 1 File; 9 End 1 File; 10 Torn 1 File;",
		"6 Got 1: 11 Got 1 Arr a0 3 a0;",
		"7 Sized 1: 12 Sized 1 Arr a0 3 Int;",
		"8 Wrote 0: 13 Done 1 File; 14 Fail 1 File;",
	}
}

// TestP131Given: the given signature, by hand, and by the constants of api.
func TestP131Given(t *testing.T) {
	s := Given()
	if got := said(s); !slices.Equal(got, givenSaid()) {
		t.Error(strings.Join(got, "\n"))
	}
	if len(s.Cons) != 15 {
		t.Error(len(s.Cons))
	}
	if want, d := modelCheck(nil); d.E != api.OK || !alike(s, want) {
		t.Error(s, want)
	}
	for n, name := range map[int]string{api.DtBool: "Bool", api.DtUnit: "Unit", api.DtPair: "Pair", api.DtList: "List", api.DtOpened: "Opened", api.DtRead: "Read", api.DtGot: "Got", api.DtSized: "Sized", api.DtWrote: "Wrote"} {
		if s.Datas[n].Name != name {
			t.Error(n, name)
		}
	}
	for n, name := range map[int]string{api.CnFalse: "False", api.CnTrue: "True", api.CnUnit: "Unit", api.CnPair: "Pair", api.CnNil: "Nil", api.CnCons: "Cons", api.CnYes: "Yes", api.CnNo: "No", api.CnLine: "Line", api.CnEnd: "End", api.CnTorn: "Torn", api.CnGot: "Got", api.CnSized: "Sized", api.CnDone: "Done", api.CnFail: "Fail"} {
		if s.Cons[n].Name != name {
			t.Error(n, name)
		}
	}
}

// TestP132Examples: those of the chapter.
func TestP132Examples(t *testing.T) {
	s, d := Check(declared("data T a = A 1 a * (T a) | B"))
	if d != (api.Diag{}) || len(s.Datas) != 10 || !slices.Equal(s.Datas[9].Cons, []int{15, 16}) {
		t.Fatal(d, s)
	}
	if got := said(s); !slices.Equal(got, append(givenSaid(), "9 T 1: 15 A 1 a0 3 T a0; 16 B;")) {
		t.Error(got[9:])
	}
	l, e := Fields(s, 15, []api.Type{{Kind: api.TInt}})
	if e != api.OK || len(l) != 2 || ty.Text(l[0], nil) != "Int" || ty.Text(l[1], names(s)) != "T Int" {
		t.Error(e, l)
	}
}

// TestP132Texts: what is right, by hand.
func TestP132Texts(t *testing.T) {
	for s, want := range map[string][]string{
		"":                          nil,
		"let a = 1":                 nil,
		"data T = A data U = B | C": {"9 T 0: 15 A;", "10 U 0: 16 B; 17 C;"},
		"let a = 1 data T = A let rec b x = A data U = B":             {"9 T 0: 15 A;", "10 U 0: 16 B;"},
		"data T = A 1 U data U = B 1 T":                               {"9 T 0: 15 A 1 U;", "10 U 0: 16 B 1 T;"},
		"data T b a = A 1 a ? b * a":                                  {"9 T 2: 15 A 1 a1 2 a0 3 a1;"},
		"data T a b c d = A 1 d":                                      {"9 T 4: 15 A 1 a3;"},
		"data T = A 1 Int ? Str * Io 1 File 1 (Arr Bool)":             {"9 T 0: 15 A 1 Int 2 Str 3 Io 1 File 1 Arr Bool;"},
		"data T a = A 1 (a -1> Int -?> (Int -*> a))":                  {"9 T 1: 15 A 1 a0 -1> Int -?> Int -*> a0;"},
		"data T = A 1 (Pair Int (List Opened))":                       {"9 T 0: 15 A 1 Pair Int (List Opened);"},
		"data T = A 1 ((T -1> T) -1> U (T -1> T) Int) data U a b = B": {"9 T 0: 15 A 1 (T -1> T) -1> U (T -1> T) Int;", "10 U 2: 16 B;"},
		"data T = T data U = Int | Arr | List | Bool":                 {"9 T 0: 15 T;", "10 U 0: 16 Int; 17 Arr; 18 List; 19 Bool;"},
		"data Cons = True' | Nil' data Nil = X":                       {"9 Cons 0: 15 True'; 16 Nil';", "10 Nil 0: 17 X;"},
		"data T a = A 1 a data U a = B 1 (T a) 1 a":                   {"9 T 1: 15 A 1 a0;", "10 U 1: 16 B 1 T a0 1 a0;"},
	} {
		l := declared(s)
		got, d := Check(l)
		if d != (api.Diag{}) || !slices.Equal(said(got), append(givenSaid(), want...)) {
			t.Errorf("%s: %v %v", s, d, said(got))
		}
		asModel(t, l)
	}
}

// TestP132Wrong: each error, by hand, at the byte that it has.
func TestP132Wrong(t *testing.T) {
	for _, c := range []struct {
		s  string
		e  api.Errno
		at int
	}{
		{"data T a = A 1 b", api.ErrUnknown, 15},
		{"data T a = A 1 T", api.ErrArity, 15},
		{"data List = A", api.ErrTwice, 5},
		{"data T = A data T = B", api.ErrTwice, 16},
		{"data Int = A", api.ErrTwice, 5},
		{"data Str = A", api.ErrTwice, 5},
		{"data Io = A", api.ErrTwice, 5},
		{"data File = A", api.ErrTwice, 5},
		{"data Arr a = A", api.ErrTwice, 5},
		{"data Wrote = A", api.ErrTwice, 5},
		{"data T a b c d e = A", api.ErrLong, 5},
		{"data T a b c d a = A", api.ErrLong, 5},
		{"data List a b c d e = A", api.ErrTwice, 5},
		{"data T a a = A", api.ErrTwice, 5},
		{"data T a b c a = A", api.ErrTwice, 5},
		{"data T a = A 1 b data U a a = B", api.ErrTwice, 22},
		{"data T = A | A", api.ErrTwice, 13},
		{"data T = Nil", api.ErrTwice, 9},
		{"data T = Unit", api.ErrTwice, 9},
		{"data T = A data U = B | A", api.ErrTwice, 24},
		{"data T = A 1 Int 1 Int 1 Int 1 Int 1 Int 1 Int 1 Int 1 Int 1 Int", api.ErrLong, 9},
		{"data T = A 1 x 1 Int 1 Int 1 Int 1 Int 1 Int 1 Int 1 Int 1 Int", api.ErrLong, 9},
		{"data T = Nil 1 Int 1 Int 1 Int 1 Int 1 Int 1 Int 1 Int 1 Int 1 Int", api.ErrTwice, 9},
		{"data T = A 1 U", api.ErrUnknown, 13},
		{"data T = A 1 a", api.ErrUnknown, 13},
		{"data T b = A 1 b 1 B", api.ErrUnknown, 19},
		{"data T = A 1 (Int Int)", api.ErrArity, 14},
		{"data T = A 1 (Str Int)", api.ErrArity, 14},
		{"data T = A 1 (Io Int)", api.ErrArity, 14},
		{"data T = A 1 (File Int)", api.ErrArity, 14},
		{"data T = A 1 Arr", api.ErrArity, 13},
		{"data T = A 1 (Arr Int Int)", api.ErrArity, 14},
		{"data T = A 1 Pair", api.ErrArity, 13},
		{"data T = A 1 (Pair Int)", api.ErrArity, 14},
		{"data T = A 1 (Pair Int Int Int)", api.ErrArity, 14},
		{"data T = A 1 (Pair x)", api.ErrArity, 14},
		{"data T = A 1 (Pair x Int)", api.ErrUnknown, 19},
		{"data T = A 1 (Pair Int (List Arr))", api.ErrArity, 29},
		{"data T = A 1 (Int -1> x)", api.ErrUnknown, 22},
		{"data T = A 1 (y -1> x)", api.ErrUnknown, 14},
		{"data T = A 1 (X y)", api.ErrUnknown, 14},
		{"data T = A 1 Int | B ? X 1 y", api.ErrUnknown, 23},
		{"data T = A 1 U | A data U = B | B", api.ErrTwice, 17},
		{"data T = A 1 X | A", api.ErrUnknown, 13},
		{"data T a = A 1 (List T)", api.ErrArity, 21},
		{"data T a = A 1 (U T) data U = B", api.ErrArity, 16},
		{"data T a = A data U = B 1 a", api.ErrUnknown, 26},
	} {
		l := declared(c.s)
		if s, d := Check(l); d != (api.Diag{E: c.e, At: api.Pos{At: c.at, Line: 1, Col: c.at + 1}}) || s.Datas != nil || s.Cons != nil {
			t.Errorf("%s: %v", c.s, d)
		}
		asModel(t, l)
	}
}

// several is n texts, as many as from a number on.
func several(from, n int, text func(i int) string) string {
	var b strings.Builder
	for i := from; i < from+n; i++ {
		b.WriteString(text(i))
	}
	return b.String()
}

// TestP132Limits: as many as there may be, and one more.
func TestP132Limits(t *testing.T) {
	data := func(i int) string { return fmt.Sprint(" let x = 1 data D", i, " = C", i) }
	l := declared(several(0, 31, data))
	if s, d := Check(l); d.E != api.OK || len(s.Datas) != api.MaxDatas || May(s) != api.OK {
		t.Error(d)
	}
	asModel(t, l)
	for _, more := range []string{"data More = X", "data Int = X", "data More a b c d e = X", "data More a a = X"} {
		l = declared(several(0, 31, data) + " " + more + " data Int = A data More = A 1 x")
		if _, d := Check(l); d != (api.Diag{E: api.ErrLong, At: l[62].At}) {
			t.Error(more, d)
		}
		asModel(t, l)
	}

	con := func(i int) string { return fmt.Sprint("| C", i, " 1 Int ") }
	for n := 1; n < 4; n++ {
		text := several(0, n, func(i int) string {
			return fmt.Sprint(" data D", i, " = X", i, several(100*i, 85/n-1, con))
		})
		for k := range 85 - 85/n*n {
			text += fmt.Sprint("| Y", k)
		}
		l = declared(text)
		if s, d := Check(l); d.E != api.OK || len(s.Cons) != api.MaxCons || May(s) != api.OK {
			t.Error(n, d)
		}
		asModel(t, l)
		for _, more := range []string{"Y", "Nil", "Y 1 x"} {
			l = declared(text + " | " + more + "| X 1 x data E = Nil")
			last := l[n-1].Cons
			if _, d := Check(l); d != (api.Diag{E: api.ErrLong, At: last[len(last)-2].At}) {
				t.Error(more, d)
			}
			asModel(t, l)
		}
	}

	l = declared("data T a b c d = A" + several(0, 8, func(int) string { return " ? (T d c b a)" }))
	if s, d := Check(l); d.E != api.OK || len(s.Cons[15].Fields) != api.MaxFields || May(s) != api.OK {
		t.Error(d)
	}
	asModel(t, l)
}

// sized is types of n nodes, if there are any of that form.
func sized(n int) []api.Ty {
	leaf := api.Ty{Kind: api.TyCon, S: "Int"}
	arr, left, right, pair, comb := leaf, leaf, leaf, leaf, leaf
	for range n - 1 {
		arr = api.Ty{Kind: api.TyCon, S: "Arr", L: []api.Ty{arr}}
	}
	l := []api.Ty{arr}
	if n%2 == 0 {
		return append(l, api.Ty{Kind: api.TyFun, M: 1, L: []api.Ty{{Kind: api.TyCon, S: "Arr", L: []api.Ty{leaf}}, sized(n - 3)[1]}})
	}
	for range n / 2 {
		left = api.Ty{Kind: api.TyFun, M: 1, L: []api.Ty{left, leaf}}
		right = api.Ty{Kind: api.TyFun, M: 2, L: []api.Ty{leaf, right}}
		pair = api.Ty{Kind: api.TyCon, S: "Pair", L: []api.Ty{pair, {Kind: api.TyName, S: "a"}}}
		comb = api.Ty{Kind: api.TyCon, S: "Pair", L: []api.Ty{leaf, comb}}
	}
	return append(l, left, right, pair, comb)
}

// inFields is a data type T of a, with these fields.
func inFields(l ...api.Ty) []api.Decl {
	c := api.ConDecl{Name: "A", At: api.Pos{At: 7}}
	for _, t := range l {
		c.Fields = append(c.Fields, api.Field{M: 1, T: t})
	}
	return []api.Decl{{Kind: api.DcData, Name: "T", At: api.Pos{At: 5}, Params: []string{"a"}, Cons: []api.ConDecl{c}}}
}

// TestP132MaxType: types of MaxType nodes, and of more.
func TestP132MaxType(t *testing.T) {
	unknown := api.Ty{Kind: api.TyCon, S: "X", At: api.Pos{At: 99}}
	for _, n := range []int{299, 300, 301, 302, 303, 1000, 1001} {
		for i, x := range sized(n) {
			want := api.Diag{}
			if n > 300 {
				want = api.Diag{E: api.ErrLong, At: api.Pos{At: 7}}
			}
			for _, l := range [][]api.Decl{inFields(x), inFields(x, x), inFields(sized(300)[1], x), inFields(x, unknown)} {
				wanted := want
				if n <= 300 && l[0].Cons[0].Fields[len(l[0].Cons[0].Fields)-1].T.S == "X" {
					wanted = api.Diag{E: api.ErrUnknown, At: unknown.At}
				}
				if s, d := Check(l); d != wanted || d.E == api.OK && May(s) != api.OK {
					t.Error(n, i, d)
				}
				asModel(t, l)
			}
			// What is wrong within goes ahead.
			within := inFields(api.Ty{Kind: api.TyFun, M: 1, L: []api.Ty{x, unknown}})
			if _, d := Check(within); d != (api.Diag{E: api.ErrUnknown, At: unknown.At}) {
				t.Error(n, i, d)
			}
			asModel(t, within)
		}
	}
}

// TestP133Con: names that are there, that are not, and that are there twice.
func TestP133Con(t *testing.T) {
	s, _ := Check(declared("data T = A | B data U = C"))
	for i, c := range s.Cons {
		if n, ok := Con(s, c.Name); n != i || !ok {
			t.Error(c.Name, n, ok)
		}
	}
	for _, name := range []string{"", "T", "U", "a", "A ", "Int", "List", "Bool", "nil"} {
		if n, ok := Con(s, name); n != 0 || ok {
			t.Error(name, n, ok)
		}
	}
	s.Cons[3].Name, s.Cons[7].Name, s.Cons[17].Name = "", "B", ""
	for name, want := range map[string]int{"": 3, "B": 7, "A": 15} {
		if n, ok := Con(s, name); n != want || !ok {
			t.Error(name, n, ok)
		}
	}
	if n, ok := Con(api.Sig{}, ""); n != 0 || ok {
		t.Error(n, ok)
	}
	if n, ok := Con(api.Sig{Cons: []api.Con{{Data: -1, Name: "Z"}}}, "Z"); n != 0 || !ok {
		t.Error(n, ok)
	}
}
