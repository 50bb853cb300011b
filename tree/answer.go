package tree

import "usufruct/api"

// answer is what stands at a place of a value: a constructor, a number or a text. Its kind is a pattern's. The zero one is none of these.
type answer struct {
	kind uint8
	n    int64 // a number, or a constructor's
	s    string
}

// ofPat is what p asks for at its place; the zero one, if it asks nothing there.
func ofPat(p *api.CPat) answer {
	return answerOf(p.Kind, p.N, p.I, p.S)
}

func ofCase(b *api.Branch) answer {
	return answerOf(b.Kind, b.N, b.I, b.S)
}

func answerOf(kind uint8, n int, i int64, s string) answer {
	switch kind {
	case api.PtInt:
		return answer{kind: kind, n: i}
	case api.PtStr:
		return answer{kind: kind, s: s}
	case api.PtCon:
		return answer{kind: kind, n: int64(n)}
	}
	return answer{}
}

func ofVal(v *api.Val) answer {
	switch {
	case v.Kind == api.WInt:
		return answer{kind: api.PtInt, n: v.N}
	case v.Kind == api.WStr:
		return answer{kind: api.PtStr, s: v.S}
	case v.Kind == api.VCon, v.Kind == api.WCon && len(v.L) == 0:
		return answer{kind: api.PtCon, n: v.N}
	}
	return answer{}
}

// branch is the case of a, whose tree is still to be made.
func (a answer) branch() api.Branch {
	b := api.Branch{Kind: a.kind, S: a.s}
	if a.kind == api.PtCon {
		b.N = int(a.n)
	} else {
		b.I = a.n
	}
	return b
}
