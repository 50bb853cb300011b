package tree

import (
	"fmt"
	"slices"

	"usufruct/api"
	"usufruct/cover"
)

// The model does what the chapter's words say, one by one.

// spot is a place at which a pattern asks, and what stands there of it.
type spot struct {
	path []int
	p    api.CPat
}

// fact is what is known of a place: what stands there, or, where there is no such thing, that it is none of some.
type fact struct {
	is  *api.CPat
	not []api.CPat
}

func modelSpots(p api.CPat, path []int) []spot {
	var l []spot
	if p.Kind == api.PtCon {
		for i := len(p.L) - 1; i >= 0; i-- {
			l = append(l, modelSpots(p.L[i], append(slices.Clone(path), i))...)
		}
	}
	if p.Kind == api.PtCon || p.Kind == api.PtInt || p.Kind == api.PtStr {
		l = append(l, spot{path, p})
	}
	return l
}

// ahead tells by the words which one of two places stands ahead.
func ahead(a, b []int) int {
	for i := range min(len(a), len(b)) {
		if a[i] != b[i] {
			return a[i] - b[i]
		}
	}
	return len(a) - len(b)
}

func sameAsk(p, q api.CPat) bool {
	return p.Kind == q.Kind && p.N == q.N && p.I == q.I && p.S == q.S
}

func isSo(f fact, p api.CPat) bool {
	if f.is != nil {
		return sameAsk(*f.is, p)
	}
	return !slices.ContainsFunc(f.not, func(q api.CPat) bool { return sameAsk(p, q) })
}

func mayFit(p api.CPat, known map[string]fact) bool {
	for _, s := range modelSpots(p, nil) {
		if f, ok := known[fmt.Sprint(s.path)]; ok && !isSo(f, s.p) {
			return false
		}
	}
	return true
}

// modelTree is the tree of l where that is known; false, if it has more nodes than left.
func modelTree(g api.Sig, l []api.CPat, known map[string]fact, left *int) (api.Tree, bool) {
	*left--
	if *left < 0 {
		return api.Tree{}, false
	}
	first := slices.IndexFunc(l, func(p api.CPat) bool { return mayFit(p, known) })
	if first < 0 {
		return api.Tree{Kind: api.TrNone}, true
	}
	var open []spot
	for _, s := range modelSpots(l[first], nil) {
		if _, ok := known[fmt.Sprint(s.path)]; !ok {
			open = append(open, s)
		}
	}
	if len(open) == 0 {
		return api.Tree{Kind: api.TrArm, N: first}, true
	}
	at := slices.MinFunc(open, func(a, b spot) int { return ahead(a.path, b.path) })
	t := api.Tree{Kind: api.TrLook, Path: at.path}
	with := func(f fact) (api.Tree, bool) {
		more := map[string]fact{fmt.Sprint(at.path): f}
		for k, f := range known {
			more[k] = f
		}
		return modelTree(g, l, more, left)
	}
	is := modelCases(g, l, at, known)
	for _, p := range is {
		kid, ok := with(fact{is: &p})
		if !ok {
			return api.Tree{}, false
		}
		t.Cases = append(t.Cases, api.Branch{Kind: p.Kind, N: p.N, I: p.I, S: p.S, T: kid})
	}
	if at.p.Kind != api.PtCon {
		kid, ok := with(fact{not: is})
		if !ok {
			return api.Tree{}, false
		}
		t.Else = []api.Tree{kid}
	}
	return t, true
}

func modelCases(g api.Sig, l []api.CPat, at spot, known map[string]fact) []api.CPat {
	var r []api.CPat
	if at.p.Kind == api.PtCon {
		for _, n := range g.Datas[g.Cons[at.p.N].Data].Cons {
			r = append(r, pCon(n))
		}
		return r
	}
	for _, p := range l {
		for _, s := range modelSpots(p, nil) {
			if mayFit(p, known) && ahead(s.path, at.path) == 0 && !slices.ContainsFunc(r, func(q api.CPat) bool { return sameAsk(q, s.p) }) {
				r = append(r, s.p)
			}
		}
	}
	return r
}

func modelBuild(g api.Sig, l []api.CPat) (api.Tree, api.Errno) {
	if cover.May(g, l) != api.OK {
		return api.Tree{}, api.ErrArg
	}
	left := 2000
	t, ok := modelTree(g, l, nil, &left)
	if !ok {
		return api.Tree{}, api.ErrTree
	}
	return t, api.OK
}

func modelAt(v api.Val, path []int) (api.Val, bool) {
	if len(path) == 0 {
		return v, true
	}
	for i, x := range v.L {
		if path[0] == i {
			return modelAt(x, path[1:])
		}
	}
	return api.Val{}, false
}

// has says whether v has the case b.
func has(v api.Val, b api.Branch) bool {
	switch b.Kind {
	case api.PtInt:
		return v.Kind == api.WInt && v.N == b.I
	case api.PtStr:
		return v.Kind == api.WStr && v.S == b.S
	case api.PtCon:
		return (v.Kind == api.VCon || v.Kind == api.WCon && len(v.L) == 0) && v.N == int64(b.N)
	}
	return false
}

func modelRun(t api.Tree, v api.Val) (int, bool) {
	switch t.Kind {
	case api.TrArm:
		return t.N, true
	case api.TrLook:
		x, ok := modelAt(v, t.Path)
		if !ok {
			return 0, false
		}
		for _, b := range t.Cases {
			if has(x, b) {
				return modelRun(b.T, v)
			}
		}
		if len(t.Else) > 0 {
			return modelRun(t.Else[0], v)
		}
	}
	return 0, false
}

func modelFirst(l []api.CPat, v api.Val) (int, bool) {
	if i := slices.IndexFunc(l, func(p api.CPat) bool { return modelFits(p, v) }); i >= 0 {
		return i, true
	}
	return 0, false
}

func modelFits(p api.CPat, v api.Val) bool {
	switch p.Kind {
	case api.PtName, api.PtAny:
		return true
	case api.PtInt, api.PtStr, api.PtCon:
		if !has(v, api.Branch{Kind: p.Kind, N: p.N, I: p.I, S: p.S}) {
			return false
		}
		if p.Kind != api.PtCon {
			return true
		}
		if len(v.L) != len(p.L) {
			return false
		}
		for i := range p.L {
			if !modelFits(p.L[i], v.L[i]) {
				return false
			}
		}
		return true
	}
	return false
}

func modelBinds(p api.CPat, path []int) []api.Bind {
	var l []api.Bind
	switch p.Kind {
	case api.PtName:
		l = append(l, api.Bind{N: p.N, Path: path})
	case api.PtCon:
		for i := len(p.L) - 1; i >= 0; i-- {
			l = append(l, modelBinds(p.L[i], append(slices.Clone(path), i))...)
		}
	}
	slices.SortFunc(l, func(a, b api.Bind) int { return ahead(a.Path, b.Path) })
	return l
}
