package cover

import (
	"slices"

	"usufruct/api"
)

// ask is what a pattern asks: of which place, and what must stand there.
type ask struct {
	at   int
	what head
}

// place is one at which patterns ask: that of the value itself (0), or of a field of what stands at another one. It is numbered behind that one.
type place struct {
	under int // the ask in whose answer it is a field, -1 of the value itself
	kind  uint8
	data  int // of PtCon: the constructors' data type
	round int // when it was seen last in rows
}

// grid is a list of patterns that goes together, each as a row: the numbers of what it asks, by places. What each value has that goes with the list is not asked.
type grid struct {
	sig    api.Sig
	places []place
	asks   []ask
	fields []int // of each ask, the place of the first field of its answer
	seen   []int // of each ask, when it was seen last in rows
	nth    map[ask]int
	rows   [][]int
	round  int
}

// layAll is the grid of l; ErrArg, unless g serves, and l goes together.
func layAll(g api.Sig, l []api.CPat) (*grid, api.Errno) {
	if !serves(g) {
		return nil, api.ErrArg
	}
	m := &grid{sig: g, places: []place{{under: -1}}, nth: map[ask]int{}}
	for i := range l {
		if !m.lay(&l[i]) {
			return nil, api.ErrArg
		}
	}
	return m, api.OK
}

// lay lays p as a row; false, if it does not go together with those ahead.
func (m *grid) lay(p *api.CPat) bool {
	type stand struct {
		p  *api.CPat
		at int
	}
	var row []int
	rest := []stand{{p, 0}}
	for len(rest) > 0 {
		x := rest[len(rest)-1]
		rest = rest[:len(rest)-1]
		if !m.isPat(x.p) {
			return false
		}
		h := ofPat(x.p)
		if h == anything() {
			continue
		}
		if !m.suits(x.at, h) {
			return false
		}
		n := m.number(ask{x.at, h})
		if !m.isSure(h) {
			row = append(row, n)
		}
		for i := range x.p.L {
			rest = append(rest, stand{&x.p.L[i], m.fields[n] + i})
		}
	}
	slices.SortFunc(row, func(a, b int) int { return m.asks[a].at - m.asks[b].at })
	m.rows = append(m.rows, row)
	return true
}

// isPat says whether p is a pattern, but for its kids: what is not named of it is zero.
func (m *grid) isPat(p *api.CPat) bool {
	switch p.Kind {
	case api.PtName:
		return p.I == 0 && p.S == "" && len(p.L) == 0
	case api.PtAny:
		return p.N == 0 && p.I == 0 && p.S == "" && len(p.L) == 0
	case api.PtInt:
		return p.N == 0 && p.S == "" && len(p.L) == 0
	case api.PtStr:
		return p.N == 0 && p.I == 0 && len(p.L) == 0
	case api.PtCon:
		return p.N >= 0 && p.N < len(m.sig.Cons) && p.I == 0 && p.S == "" && len(p.L) == len(m.sig.Cons[p.N].Fields)
	}
	return false
}

// suits says whether h may stand at a place together with what patterns ask there already.
func (m *grid) suits(at int, h head) bool {
	data := 0
	if h.kind == api.PtCon {
		data = m.sig.Cons[h.n].Data
	}
	p := &m.places[at]
	if p.kind == 0 {
		p.kind, p.data = h.kind, data
	}
	return p.kind == h.kind && p.data == data
}

// number is a's number; if it is a new one, with places for the fields of its answer.
func (m *grid) number(a ask) int {
	if n, ok := m.nth[a]; ok {
		return n
	}
	n := len(m.asks)
	m.nth[a] = n
	m.asks = append(m.asks, a)
	m.fields = append(m.fields, len(m.places))
	m.seen = append(m.seen, 0)
	for range a.what.kids {
		m.places = append(m.places, place{under: n})
	}
	return n
}

// isSure says whether h is that of the only constructor of its data type, so that each value has it there.
func (m *grid) isSure(h head) bool {
	return h.kind == api.PtCon && len(m.sig.Datas[m.sig.Cons[h.n].Data].Cons) == 1
}

// serves says whether the data types and the constructors of g tell alike of each other.
func serves(g api.Sig) bool {
	found := make([]bool, len(g.Cons))
	n := 0
	for i, d := range g.Datas {
		for _, c := range d.Cons {
			if c < 0 || c >= len(g.Cons) || g.Cons[c].Data != i || found[c] {
				return false
			}
			found[c] = true
			n++
		}
	}
	return n == len(g.Cons)
}
