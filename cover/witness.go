package cover

import (
	"slices"
	"strconv"

	"usufruct/api"
)

// witness is the pattern of what stands at places (each once), without names.
func (m *grid) witness(picks []ask) api.CPat {
	what := map[int]head{}
	for _, a := range picks {
		what[a.at] = a.what
	}
	made := map[int]api.CPat{}
	for at, p := range slices.Backward(m.places) {
		h, ok := what[at]
		if !ok {
			continue
		}
		made[at] = m.pattern(ask{at, h}, made)
		if p.under < 0 {
			break
		}
		// A field is there only where its constructor stands; if another one was picked, that is enough.
		up := m.asks[p.under]
		if _, ok := what[up.at]; !ok {
			what[up.at] = up.what
		}
	}
	return orAny(made, 0)
}

// pattern is the one that asks for a, with those that are made in its fields.
func (m *grid) pattern(a ask, made map[int]api.CPat) api.CPat {
	switch m.places[a.at].kind {
	case api.PtInt:
		return api.CPat{Kind: api.PtInt, I: m.spareInt(a.at)}
	case api.PtStr:
		return api.CPat{Kind: api.PtStr, S: m.spareStr(a.at)}
	}
	p := api.CPat{Kind: api.PtCon, N: int(a.what.n)}
	n, ok := m.nth[a]
	for i := range a.what.kids {
		kid := api.CPat{Kind: api.PtAny}
		if ok {
			kid = orAny(made, m.fields[n]+i)
		}
		p.L = append(p.L, kid)
	}
	return p
}

func orAny(made map[int]api.CPat, at int) api.CPat {
	if p, ok := made[at]; ok {
		return p
	}
	return api.CPat{Kind: api.PtAny}
}

// spareInt is the least number, from 0 on, that no pattern asks for at a place.
func (m *grid) spareInt(at int) int64 {
	n := int64(0)
	for m.isAsked(at, head{kind: api.PtInt, n: n}) {
		n++
	}
	return n
}

// spareStr is a text that no pattern asks for at a place: none, or a number's.
func (m *grid) spareStr(at int) string {
	s := ""
	for n := 0; m.isAsked(at, head{kind: api.PtStr, s: s}); n++ {
		s = strconv.Itoa(n)
	}
	return s
}

func (m *grid) isAsked(at int, h head) bool {
	_, ok := m.nth[ask{at, h}]
	return ok
}
