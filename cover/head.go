package cover

import "usufruct/api"

// head is what a pattern asks of what stands at its place, but for the fields; or what a value has there. Its kind is a pattern's. The zero one is that of a pattern that no value fits.
type head struct {
	kind uint8
	n    int64 // a number, or a constructor's
	s    string
	kids int
}

// anything is the head of a pattern that asks nothing, and of a value that no other one fits.
func anything() head {
	return head{kind: api.PtAny}
}

func ofPat(p *api.CPat) head {
	switch p.Kind {
	case api.PtName, api.PtAny:
		return anything()
	case api.PtInt:
		return head{kind: api.PtInt, n: p.I}
	case api.PtStr:
		return head{kind: api.PtStr, s: p.S}
	case api.PtCon:
		return head{kind: api.PtCon, n: int64(p.N), kids: len(p.L)}
	}
	return head{}
}

func ofVal(v *api.Val) head {
	switch {
	case v.Kind == api.WInt:
		return head{kind: api.PtInt, n: v.N}
	case v.Kind == api.WStr:
		return head{kind: api.PtStr, s: v.S}
	case v.Kind == api.VCon, v.Kind == api.WCon && len(v.L) == 0:
		return head{kind: api.PtCon, n: v.N, kids: len(v.L)}
	}
	return anything()
}
