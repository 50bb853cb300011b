package data

import (
	"slices"
	"sync"

	"usufruct/api"
)

// The chapter's words, as rules that each find all faults that they forbid, whatever the others find: the answer is the one that the order names first.

// fault is an error, its place, and where it stands in the order that P13.2 tells.
type fault struct {
	order []int
	d     api.Diag
}

// builtIn is how many types stand behind the names that no signature has.
func builtIn() map[string]int {
	return map[string]int{"Int": 0, "Str": 0, "Io": 0, "File": 0, "Arr": 1}
}

// givenText is the chapter's list of what is given, as declarations.
const givenText = `data Bool = False | True data Unit = Unit data Pair a b = Pair 1 a 1 b data List a = Nil | Cons 1 a 1 (List a)
data Opened = Yes 1 File 1 Io | No 1 Io data Read = Line * Str 1 File | End 1 File | Torn 1 File
data Got a = Got 1 (Arr a) * a data Sized a = Sized 1 (Arr a) * Int data Wrote = Done 1 File | Fail 1 File`

var givenOnce = sync.OnceValue(func() []api.Decl { return declared(givenText) })

type model struct {
	all    []api.Decl // those that are given, and those of data types
	given  int
	faults []fault
}

func (m *model) fault(e api.Errno, at api.Pos, order ...int) {
	m.faults = append(m.faults, fault{order, api.Diag{E: e, At: at}})
}

// modelCheck is Check.
func modelCheck(l []api.Decl) (api.Sig, api.Diag) {
	given := givenOnce()
	m := &model{all: slices.Clone(given), given: len(given)}
	for _, d := range l {
		if d.Kind != api.DcLet {
			m.all = append(m.all, d)
		}
	}
	for i := m.given; i < len(m.all); i++ {
		m.headFaults(i)
		m.bodyFaults(i)
	}
	if len(m.faults) > 0 {
		first := slices.MinFunc(m.faults, func(a, b fault) int { return slices.Compare(a.order, b.order) })
		return api.Sig{}, first.d
	}
	return m.sig(), api.Diag{}
}

func (m *model) headFaults(i int) {
	d := m.all[i]
	if d.Kind != api.DcData {
		m.fault(api.ErrArg, d.At, 1, i, 1)
	}
	if i >= 40 {
		m.fault(api.ErrLong, d.At, 1, i, 2)
	}
	_, taken := builtIn()[d.Name]
	for _, ahead := range m.all[:i] {
		taken = taken || ahead.Name == d.Name
	}
	if taken {
		m.fault(api.ErrTwice, d.At, 1, i, 3)
	}
	if len(d.Params) > 4 {
		m.fault(api.ErrLong, d.At, 1, i, 4)
	}
	for k := range d.Params {
		for _, p := range d.Params[:k] {
			if p == d.Params[k] {
				m.fault(api.ErrTwice, d.At, 1, i, 5)
			}
		}
	}
}

func (m *model) bodyFaults(i int) {
	d := m.all[i]
	if len(d.Cons) == 0 {
		m.fault(api.ErrArg, d.At, 2, i, 0)
	}
	for k, c := range d.Cons {
		ahead := slices.Clone(d.Cons[:k])
		for _, x := range m.all[:i] {
			ahead = append(ahead, x.Cons...)
		}
		if len(ahead) >= 100 {
			m.fault(api.ErrLong, c.At, 2, i, 1, k, 0, 1)
		}
		for _, x := range ahead {
			if x.Name == c.Name {
				m.fault(api.ErrTwice, c.At, 2, i, 1, k, 0, 2)
			}
		}
		if len(c.Fields) > 8 {
			m.fault(api.ErrLong, c.At, 2, i, 1, k, 0, 3)
		}
		for n, f := range c.Fields {
			if f.M < 1 || f.M > 3 {
				m.fault(api.ErrArg, c.At, 2, i, 1, k, 1, n, 1)
			}
			if nodes := m.tyFaults(d.Params, f.T, []int{2, i, 1, k, 1, n, 2}, 0); nodes > 300 {
				m.fault(api.ErrLong, c.At, 2, i, 1, k, 1, n, 3)
			}
		}
	}
}

// tyFaults tells what is wrong in t, ahead of which so many nodes stand, and how many there are with it.
func (m *model) tyFaults(params []string, t api.Ty, order []int, ahead int) int {
	tell := func(wrong bool, e api.Errno, nth int) {
		if wrong {
			m.fault(e, t.At, append(slices.Clone(order), ahead, nth)...)
		}
	}
	switch t.Kind {
	case api.TyName:
		tell(!slices.Contains(params, t.S), api.ErrUnknown, 2)
		tell(len(t.L) != 0, api.ErrArity, 3)
	case api.TyCon:
		takes, ok := builtIn()[t.S]
		for _, d := range m.all {
			if !ok && d.Name == t.S {
				takes, ok = len(d.Params), true
			}
		}
		tell(!ok, api.ErrUnknown, 2)
		tell(len(t.L) != takes, api.ErrArity, 3)
	case api.TyFun:
		tell(len(t.L) != 2 || t.M < 1 || t.M > 3, api.ErrArg, 1)
	default:
		tell(true, api.ErrArg, 1)
	}
	n := ahead + 1
	for _, u := range t.L {
		n = m.tyFaults(params, u, order, n)
	}
	return n
}

// sig is the signature of declarations without a fault.
func (m *model) sig() api.Sig {
	var s api.Sig
	for i, d := range m.all {
		data := api.Data{Name: d.Name, Params: len(d.Params)}
		for _, c := range d.Cons {
			con := api.Con{Name: c.Name, Data: i}
			for _, f := range c.Fields {
				con.Mults = append(con.Mults, f.M)
				con.Fields = append(con.Fields, m.ty(d.Params, f.T))
			}
			data.Cons = append(data.Cons, len(s.Cons))
			s.Cons = append(s.Cons, con)
		}
		s.Datas = append(s.Datas, data)
	}
	return s
}

func (m *model) ty(params []string, t api.Ty) api.Type {
	var x api.Type
	for _, u := range t.L {
		x.L = append(x.L, m.ty(params, u))
	}
	switch {
	case t.Kind == api.TyFun:
		x.Kind, x.M.C = api.TFun, t.M
	case t.Kind == api.TyName:
		x.Kind, x.N = api.TVar, slices.Index(params, t.S)
	case t.S == "Arr":
		x.Kind = api.TArr
	case slices.Contains([]string{"Int", "Str", "Io", "File"}, t.S):
		x.Kind = map[string]uint8{"Int": api.TInt, "Str": api.TStr, "Io": api.TIo, "File": api.TFile}[t.S]
	default:
		x.Kind, x.N = api.TData, slices.IndexFunc(m.all, func(d api.Decl) bool { return d.Name == t.S })
	}
	return x
}

// modelMay is May: what is forbidden is counted.
func modelMay(s api.Sig) api.Errno {
	faults := max(0, len(s.Datas)-40) + max(0, len(s.Cons)-100)
	for i, d := range s.Datas {
		for _, x := range s.Datas[i+1:] {
			faults += number(x.Name == d.Name)
		}
		faults += number(d.Params < 0 || d.Params > 4) + number(len(d.Cons) == 0)
		for k, n := range d.Cons {
			faults += number(k > 0 && d.Cons[k-1] >= n) + number(n < 0 || n >= len(s.Cons) || s.Cons[n].Data != i)
		}
	}
	for i, c := range s.Cons {
		for _, x := range s.Cons[i+1:] {
			faults += number(x.Name == c.Name)
		}
		if c.Data < 0 || c.Data >= len(s.Datas) {
			faults++
			continue
		}
		d := s.Datas[c.Data]
		faults += number(!slices.Contains(d.Cons, i)) + number(len(c.Fields) > 8) + number(len(c.Mults) != len(c.Fields))
		for _, m := range c.Mults {
			faults += number(m != api.One && m != api.Affine && m != api.Many)
		}
		for _, t := range c.Fields {
			faults += number(nodes(t) > 300) + typeFaults(s, d.Params, t)
		}
	}
	if faults > 0 {
		return api.ErrArg
	}
	return api.OK
}

// typeFaults is how many nodes of t may not be in a field, where there are so many parameters.
func typeFaults(s api.Sig, params int, t api.Type) int {
	kids := map[uint8]int{api.TVar: 0, api.TInt: 0, api.TStr: 0, api.TIo: 0, api.TFile: 0, api.TArr: 1, api.TFun: 2}
	want, ok := kids[t.Kind]
	switch {
	case t.Kind == api.TVar:
		ok = t.N >= 0 && t.N < params
	case t.Kind == api.TData && t.N >= 0 && t.N < len(s.Datas):
		want, ok = s.Datas[t.N].Params, true
	default:
		ok = ok && t.N == 0
	}
	if t.Kind == api.TFun {
		ok = ok && t.M.V == 0 && t.M.C >= 1 && t.M.C <= 3
	} else {
		ok = ok && t.M == api.Mu{}
	}
	n := number(!ok || len(t.L) != want)
	for _, u := range t.L {
		n += typeFaults(s, params, u)
	}
	return n
}

func number(is bool) int {
	if is {
		return 1
	}
	return 0
}

func nodes(t api.Type) int {
	n := 1
	for _, u := range t.L {
		n += nodes(u)
	}
	return n
}

// modelFields is Fields.
func modelFields(s api.Sig, con int, args []api.Type) ([]api.Type, api.Errno) {
	if modelMay(s) != api.OK || con < 0 || con >= len(s.Cons) || len(args) != s.Datas[s.Cons[con].Data].Params {
		return nil, api.ErrArg
	}
	for _, t := range args {
		if nodes(t) > 300 || !isType(t) {
			return nil, api.ErrArg
		}
	}
	var l []api.Type
	for _, f := range s.Cons[con].Fields {
		t := put(f, args)
		if nodes(t) > 300 {
			return nil, api.ErrLong
		}
		l = append(l, t)
	}
	return l, api.OK
}

func put(t api.Type, args []api.Type) api.Type {
	if t.Kind == api.TVar {
		return args[t.N]
	}
	x := t
	x.L = nil
	for _, u := range t.L {
		x.L = append(x.L, put(u, args))
	}
	return x
}

// isType says whether t is a type by the words of chapter 6, but for how many nodes it has.
func isType(t api.Type) bool {
	ok := false
	switch t.Kind {
	case api.TVar:
		ok = t.N >= 0 && t.N < 1<<20 && len(t.L) == 0 && t.M == api.Mu{}
	case api.TInt, api.TStr, api.TIo, api.TFile:
		ok = t.N == 0 && len(t.L) == 0 && t.M == api.Mu{}
	case api.TArr:
		ok = t.N == 0 && len(t.L) == 1 && t.M == api.Mu{}
	case api.TFun:
		ok = t.N == 0 && len(t.L) == 2 && t.M.C <= 3 && t.M.V >= 0 && t.M.V < 1<<20 && (t.M.C == 0 || t.M.V == 0)
	case api.TData:
		ok = t.N >= 0 && t.N < 40 && len(t.L) <= 4 && t.M == api.Mu{}
	}
	for _, u := range t.L {
		ok = ok && isType(u)
	}
	return ok
}
