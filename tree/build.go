package tree

import (
	"slices"

	"usufruct/api"
)

// place is one in a value: a field of the constructor that stands at the place known[under]. The zero one is that of the value itself.
type place struct{ under, field int }

// ask is a pattern that asks something at a place.
type ask struct {
	at place
	p  *api.CPat
}

// row is a pattern that may fit still: its number in the list, and all that it asks at places of which nothing is known, but for what stands within that; in the order of places.
type row struct {
	n    int
	asks []ask
}

// job is a tree that is still to be made: of those of rows that may fit still where it is known, too, what stands at a place.
type job struct {
	to   *api.Tree
	rows []row
	at   place
	what answer // the zero one: none of those for which rows ask
}

// builder makes a tree. The jobs are a list, as trees may be deeper than calls go; how many nodes there are is known ahead of their being made.
type builder struct {
	sig   api.Sig
	known []place // where it is known, for one job or another, what stands there
	jobs  []job
	nodes int
}

// build is the tree of l, which goes together.
func build(g api.Sig, l []api.CPat) (api.Tree, api.Errno) {
	var rows []row
	for i := range l {
		rows = append(rows, row{i, asksOf(l[i:i+1], 0)})
	}
	var t api.Tree
	b := &builder{sig: g, known: []place{{}}, nodes: 1}
	b.node(&t, rows)
	for len(b.jobs) > 0 && b.nodes <= api.MaxTree {
		j := b.jobs[len(b.jobs)-1]
		b.jobs = b.jobs[:len(b.jobs)-1]
		b.node(j.to, b.still(j))
	}
	if b.nodes > api.MaxTree {
		return api.Tree{}, api.ErrTree
	}
	return t, api.OK
}

// asksOf is those of l that ask something, as fields of what stands at the place known[under].
func asksOf(l []api.CPat, under int) []ask {
	var asks []ask
	for i := range l {
		if ofPat(&l[i]) != (answer{}) {
			asks = append(asks, ask{place{under, i}, &l[i]})
		}
	}
	return asks
}

// node makes t of rows, which are all that may fit still; the trees within it become jobs.
func (b *builder) node(t *api.Tree, rows []row) {
	switch {
	case len(rows) == 0:
		t.Kind = api.TrNone
	case len(rows[0].asks) == 0:
		t.Kind, t.N = api.TrArm, rows[0].n
	default:
		b.look(t, rows)
	}
}

func (b *builder) look(t *api.Tree, rows []row) {
	first := rows[0].asks[0]
	t.Kind = api.TrLook
	t.Path = b.path(first.at)
	l := b.answers(rows, first)
	if first.p.Kind != api.PtCon {
		t.Else = make([]api.Tree, 1)
		b.jobs = append(b.jobs, job{&t.Else[0], rows, first.at, answer{}})
	}
	b.nodes += len(l) + len(t.Else)
	if b.nodes > api.MaxTree {
		return
	}
	t.Cases = make([]api.Branch, len(l))
	for i, a := range l {
		t.Cases[i] = a.branch()
		b.jobs = append(b.jobs, job{&t.Cases[i].T, rows, first.at, a})
	}
}

// path is the fields' numbers of a place.
func (b *builder) path(at place) []int {
	var l []int
	for at != (place{}) {
		l = append(l, at.field)
		at = b.known[at.under]
	}
	slices.Reverse(l)
	return l
}

// answers is what there are cases of at the place of first: each constructor of the data type, or each number, each text for which one of rows asks there.
func (b *builder) answers(rows []row, first ask) []answer {
	var l []answer
	if first.p.Kind == api.PtCon {
		for _, n := range b.sig.Datas[b.sig.Cons[first.p.N].Data].Cons {
			l = append(l, answer{kind: api.PtCon, n: int64(n)})
		}
		return l
	}
	seen := map[answer]struct{}{}
	for _, r := range rows {
		i := r.find(first.at)
		if i < 0 {
			continue
		}
		a := ofPat(r.asks[i].p)
		if _, ok := seen[a]; !ok {
			seen[a] = struct{}{}
			l = append(l, a)
		}
	}
	return l
}

// find is which one of r's asks is that at a place, -1 if none is.
func (r row) find(at place) int {
	return slices.IndexFunc(r.asks, func(a ask) bool { return a.at == at })
}

// still is those of j's rows that may fit still, with what they ask then.
func (b *builder) still(j job) []row {
	b.known = append(b.known, j.at)
	var l []row
	for _, r := range j.rows {
		i := r.find(j.at)
		if i < 0 {
			l = append(l, r)
			continue
		}
		if p := r.asks[i].p; ofPat(p) == j.what {
			// The fields' places stand right behind that one: so the order is kept.
			l = append(l, row{r.n, slices.Concat(r.asks[:i], asksOf(p.L, len(b.known)-1), r.asks[i+1:])})
		}
	}
	return l
}
