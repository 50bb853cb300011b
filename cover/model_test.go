package cover

import (
	"slices"

	"usufruct/api"
)

// The model does what the chapter's words say, one by one, and tries all values.

func modelServes(g api.Sig) bool {
	for i, c := range g.Cons {
		if c.Data < 0 || c.Data >= len(g.Datas) || !slices.Contains(g.Datas[c.Data].Cons, i) {
			return false
		}
	}
	for i, d := range g.Datas {
		for k, c := range d.Cons {
			if c < 0 || c >= len(g.Cons) || g.Cons[c].Data != i || slices.Contains(d.Cons[:k], c) {
				return false
			}
		}
	}
	return true
}

func isWild(p api.CPat) bool { return p.Kind == api.PtName || p.Kind == api.PtAny }

func modelOne(g api.Sig, p api.CPat) bool {
	bare := p
	bare.At, bare.L = api.Pos{}, nil
	switch p.Kind {
	case api.PtName:
		bare.N = 0
	case api.PtInt:
		bare.I = 0
	case api.PtStr:
		bare.S = ""
	case api.PtCon:
		if p.N < 0 || p.N >= len(g.Cons) || len(p.L) != len(g.Cons[p.N].Fields) {
			return false
		}
		bare.N = 0
	case api.PtAny:
	default:
		return false
	}
	return alike(bare, api.CPat{Kind: p.Kind}) && (p.Kind == api.PtCon || len(p.L) == 0)
}

// kidsOf is the kids in the field i of those of l that have the constructor n.
func kidsOf(l []api.CPat, n, i int) []api.CPat {
	var r []api.CPat
	for _, p := range l {
		if p.Kind == api.PtCon && p.N == n {
			r = append(r, p.L[i])
		}
	}
	return r
}

func modelTogether(g api.Sig, l []api.CPat) bool {
	var kinds, datas []int
	for _, p := range l {
		if !modelOne(g, p) {
			return false
		}
		if isWild(p) {
			continue
		}
		kinds = append(kinds, int(p.Kind))
		if p.Kind == api.PtCon {
			datas = append(datas, g.Cons[p.N].Data)
		}
	}
	if len(slices.Compact(kinds)) > 1 || len(slices.Compact(datas)) > 1 {
		return false
	}
	for n, c := range g.Cons {
		for i := range c.Fields {
			if kids := kidsOf(l, n, i); len(kids) > 0 && !modelTogether(g, kids) {
				return false
			}
		}
	}
	return true
}

func modelMay(g api.Sig, l []api.CPat) api.Errno {
	if modelServes(g) && modelTogether(g, l) {
		return api.OK
	}
	return api.ErrArg
}

func modelFits(p api.CPat, v api.Val) bool {
	switch p.Kind {
	case api.PtName, api.PtAny:
		return true
	case api.PtInt:
		return v.Kind == api.WInt && v.N == p.I
	case api.PtStr:
		return v.Kind == api.WStr && v.S == p.S
	case api.PtCon:
		if v.Kind != api.VCon && (v.Kind != api.WCon || len(v.L) > 0) || v.N != int64(p.N) || len(v.L) != len(p.L) {
			return false
		}
		for i := range p.L {
			if !modelFits(p.L[i], v.L[i]) {
				return false
			}
		}
		return true
	}
	return false
}

// modelBoth is a value that fits both, if there is one.
func modelBoth(p, q api.CPat) (api.Val, bool) {
	if isWild(p) {
		p, q = q, p
	}
	v := api.Val{}
	switch p.Kind {
	case api.PtName, api.PtAny:
		return api.Val{Kind: api.WIo}, true
	case api.PtInt:
		v = vInt(p.I)
	case api.PtStr:
		v = vStr(p.S)
	case api.PtCon:
		v = vCon(int64(p.N))
		for i, x := range p.L {
			y := pAny()
			if q.Kind == api.PtCon && i < len(q.L) {
				y = q.L[i]
			}
			kid, ok := modelBoth(x, y)
			if !ok {
				return api.Val{}, false
			}
			v.L = append(v.L, kid)
		}
	default:
		return api.Val{}, false
	}
	return v, modelFits(q, v)
}

// modelGoes says whether v goes with l.
func modelGoes(g api.Sig, l []api.CPat, v api.Val) bool {
	i := slices.IndexFunc(l, func(p api.CPat) bool { return !isWild(p) })
	if i < 0 {
		return true
	}
	switch l[i].Kind {
	case api.PtInt:
		return v.Kind == api.WInt
	case api.PtStr:
		return v.Kind == api.WStr
	}
	if v.N < 0 || v.N >= int64(len(g.Cons)) || g.Cons[v.N].Data != g.Cons[l[i].N].Data || len(v.L) != len(g.Cons[v.N].Fields) {
		return false
	}
	if v.Kind != api.VCon && (v.Kind != api.WCon || len(v.L) > 0) || v.Kind == api.VCon && len(v.L) == 0 {
		return false
	}
	for k, x := range v.L {
		if !modelGoes(g, kidsOf(l, int(v.N), k), x) {
			return false
		}
	}
	return true
}

// modelValues is all values that go with l, one for all that differ in nothing that l asks; nothing, if there are more than most.
func modelValues(g api.Sig, l []api.CPat, most int) ([]api.Val, bool) {
	i := slices.IndexFunc(l, func(p api.CPat) bool { return !isWild(p) })
	if i < 0 {
		return []api.Val{{Kind: api.WIo}}, true
	}
	var r []api.Val
	switch l[i].Kind {
	case api.PtInt:
		r = append(r, vInt(-77))
	case api.PtStr:
		r = append(r, vStr("?"))
	}
	for _, p := range l {
		v := vInt(p.I)
		if p.Kind == api.PtStr {
			v = vStr(p.S)
		}
		if !isWild(p) && p.Kind != api.PtCon && !slices.ContainsFunc(r, func(x api.Val) bool { return alike(x, v) }) {
			r = append(r, v)
		}
	}
	if l[i].Kind != api.PtCon {
		return r, true
	}
	for n, c := range g.Cons {
		if c.Data != g.Cons[l[i].N].Data {
			continue
		}
		all, ok := modelFields(g, l, n, most)
		if !ok || len(r)+len(all) > most {
			return nil, false
		}
		r = append(r, all...)
	}
	return r, true
}

// modelFields is all values of the constructor n that go with l.
func modelFields(g api.Sig, l []api.CPat, n, most int) ([]api.Val, bool) {
	if len(g.Cons[n].Fields) == 0 {
		return []api.Val{wCon(int64(n))}, true
	}
	r := []api.Val{vCon(int64(n))}
	for i := range g.Cons[n].Fields {
		kids, ok := modelValues(g, kidsOf(l, n, i), most)
		if !ok || len(r)*len(kids) > most {
			return nil, false
		}
		var next []api.Val
		for _, v := range r {
			for _, k := range kids {
				next = append(next, vCon(int64(n), append(slices.Clone(v.L), k)...))
			}
		}
		r = next
	}
	return r, true
}

func fitsOne(l []api.CPat, v api.Val) bool {
	return slices.ContainsFunc(l, func(p api.CPat) bool { return modelFits(p, v) })
}

// modelCheck is what Check tells, but for the witness; values are all that go with l.
func modelCheck(l []api.CPat, values []api.Val) (int, api.Errno) {
	for _, v := range values {
		if !fitsOne(l, v) {
			return 0, api.ErrMissing
		}
	}
	for i, p := range l {
		if !slices.ContainsFunc(values, func(v api.Val) bool { return modelFits(p, v) && !fitsOne(l[:i], v) }) {
			return i, api.ErrUseless
		}
	}
	return 0, api.OK
}
