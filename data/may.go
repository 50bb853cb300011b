package data

import (
	"slices"

	"usufruct/api"
	"usufruct/ty"
)

// isSig says whether s may be.
func isSig(s api.Sig) bool {
	if len(s.Datas) > api.MaxDatas || len(s.Cons) > api.MaxCons {
		return false
	}
	for d := range s.Datas {
		if !isData(s, d) {
			return false
		}
	}
	for i := range s.Cons {
		if !isCon(s, i) {
			return false
		}
	}
	return true
}

// isData says whether the data type d of s may be, next to those ahead of it.
func isData(s api.Sig, d int) bool {
	x := s.Datas[d]
	return !hasData(s.Datas[:d], x.Name) && x.Params >= 0 && x.Params <= api.MaxParams &&
		len(x.Cons) > 0 && slices.Equal(x.Cons, consOf(s, d))
}

// isCon says whether the constructor i of s may be, next to those ahead of it.
func isCon(s api.Sig, i int) bool {
	c := s.Cons[i]
	if c.Data < 0 || c.Data >= len(s.Datas) || hasCon(s.Cons[:i], c.Name) {
		return false
	}
	if len(c.Fields) > api.MaxFields || len(c.Mults) != len(c.Fields) {
		return false
	}
	for k, t := range c.Fields {
		if !isMult(c.Mults[k]) || !isField(s, s.Datas[c.Data].Params, t) {
			return false
		}
	}
	return true
}

// isField says whether t may be the type of a field of a constructor whose data type has so many parameters.
func isField(s api.Sig, params int, t api.Type) bool {
	if ty.May(t) != api.OK {
		return false
	}
	types, mults := ty.Vars(t)
	return len(mults) == 0 && !slices.ContainsFunc(types, func(v int) bool { return v >= params }) && hasAll(s, t)
}

// hasAll says whether all data types in t, which may be, are there, with as many arguments as they have parameters.
func hasAll(s api.Sig, t api.Type) bool {
	if t.Kind == api.TData && (t.N >= len(s.Datas) || len(t.L) != s.Datas[t.N].Params) {
		return false
	}
	return !slices.ContainsFunc(t.L, func(u api.Type) bool { return !hasAll(s, u) })
}

// consOf is the numbers of the constructors of which d is the data type.
func consOf(s api.Sig, d int) []int {
	var l []int
	for i, c := range s.Cons {
		if c.Data == d {
			l = append(l, i)
		}
	}
	return l
}

func hasData(l []api.Data, name string) bool {
	return slices.ContainsFunc(l, func(d api.Data) bool { return d.Name == name })
}

func hasCon(l []api.Con, name string) bool {
	return slices.ContainsFunc(l, func(c api.Con) bool { return c.Name == name })
}

func isMult(m api.Mult) bool {
	return m == api.One || m == api.Affine || m == api.Many
}
