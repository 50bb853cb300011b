package core

import (
	"slices"

	"usufruct/api"
	"usufruct/data"
)

// The chapter's words, each told by itself: all that is written is laid out as a list of spots, each with its way from the declarations on; ways in order are the order of P14.2, and what a name stands for is looked for outward along its way. All faults are found, whatever the others are, and the answer is the first one.

// spot is an expression, or a pattern in that arm, that is written.
type spot struct {
	way, arm []int
	x        *api.Expr
	p        *api.Pat
}

// fault is an error, its place, and where it stands in the order: the spot's way, and which of the spot's.
type fault struct {
	way []int
	nth int
	d   api.Diag
}

type model struct {
	decls  []api.Decl // without those of data types
	sig    api.Sig
	spots  []spot
	faults []fault
}

func (m *model) fault(is bool, e api.Errno, at api.Pos, way []int, nth int) {
	if is {
		m.faults = append(m.faults, fault{way, nth, api.Diag{E: e, At: at}})
	}
}

// further is way with more of it behind; the memory is its own.
func further(way []int, more ...int) []int {
	return slices.Concat(way, more)
}

// A way goes on by 0 and i to the kid i; by 1 and i to the arm i, and then by 0 to its pattern and by 1 to its expression. A pattern's goes on by i.
func (m *model) lay(x *api.Expr, way []int) {
	m.spots = append(m.spots, spot{way: way, x: x})
	for i := range x.L {
		m.lay(&x.L[i], further(way, 0, i))
	}
	if x.Kind != api.ExCase {
		return
	}
	for i := range x.Arms {
		m.layPat(&x.Arms[i].P, further(way, 1, i, 0), further(way, 1, i))
		m.lay(&x.Arms[i].E, further(way, 1, i, 1))
	}
}

func (m *model) layPat(p *api.Pat, way, arm []int) {
	m.spots = append(m.spots, spot{way: way, arm: arm, p: p})
	for i := range p.L {
		m.layPat(&p.L[i], further(way, i), arm)
	}
}

// number is how many spots ahead of way bind a variable.
func (m *model) number(way []int) int {
	n := 0
	for _, s := range m.spots {
		if slices.Compare(s.way, way) < 0 && s.name() != nil {
			n++
		}
	}
	return n
}

// name is the name that a spot binds, nil if it binds none.
func (s spot) name() *string {
	switch {
	case s.p != nil && s.p.Kind == api.PtName:
		return &s.p.S
	case s.x != nil && (s.x.Kind == api.ExLam || s.x.Kind == api.ExLet || s.x.Kind == api.ExRec):
		return &s.x.S
	}
	return nil
}

func begins(way, with []int) bool {
	return len(way) >= len(with) && slices.Equal(way[:len(with)], with)
}

// reaches says whether what s binds is bound at way.
func (s spot) reaches(way []int) bool {
	if s.p != nil {
		return begins(way, further(s.arm, 1))
	}
	first := 0
	if s.x.Kind == api.ExLet {
		first = 1
	}
	return begins(way, s.way) && len(way) > len(s.way)+1 && way[len(s.way)] == 0 && way[len(s.way)+1] >= first
}

// bound is the number of the variable that the name is at way: of those that reach there the one whose way is the longest.
func (m *model) bound(name string, way []int) (int, bool) {
	best := -1
	for i, s := range m.spots {
		if n := s.name(); n != nil && *n == name && s.reaches(way) && (best < 0 || s.around() > m.spots[best].around()) {
			best = i
		}
	}
	if best < 0 {
		return 0, false
	}
	return m.number(m.spots[best].way), true
}

// around is how long the way is to where it binds.
func (s spot) around() int {
	return max(len(s.arm), len(s.way)*number(s.x != nil))
}

func number(is bool) int {
	if is {
		return 1
	}
	return 0
}

// top is the top-level name that may stand within the declaration i.
func (m *model) top(name string, i int) (int, bool) {
	for k := range i + 1 {
		if m.decls[k].Name == name && (k < i || m.decls[k].Rec) {
			return k, true
		}
	}
	return 0, false
}

func (m *model) con(name string) int {
	return slices.IndexFunc(m.sig.Cons, func(c api.Con) bool { return c.Name == name })
}

// signs is the primitives and signs as the chapter lists them.
func signs() []string {
	return []string{"", "open", "read", "write", "close", "array", "get", "set", "size", "fail", "len", "+", "-", "*", "/", "%", "<", "==", "++"}
}

// takes is how many each of them takes, from 1 on.
func takes() []int {
	return []int{0, 2, 1, 2, 1, 2, 2, 3, 1, 1, 1, 2, 2, 2, 2, 2, 2, 2, 2}
}

func modelResolve(l []api.Decl, s api.Sig) (api.Prog, api.Diag) {
	m := &model{sig: s}
	for _, d := range l {
		if d.Kind != api.DcData {
			m.decls = append(m.decls, d)
		}
	}
	for i := range m.decls {
		m.lay(&m.decls[i].E, []int{i})
	}
	for i := range m.decls {
		m.declFaults(i)
	}
	for _, s := range m.spots {
		if s.x != nil {
			m.exprFaults(s)
		} else {
			m.patFaults(s)
		}
	}
	if len(m.faults) > 0 {
		return api.Prog{}, slices.MinFunc(m.faults, func(a, b fault) int {
			if c := slices.Compare(a.way, b.way); c != 0 {
				return c
			}
			return a.nth - b.nth
		}).d
	}
	p := api.Prog{Sig: s, Vars: m.number([]int{len(l)})}
	for i, d := range m.decls {
		p.Tops = append(p.Tops, api.Top{Name: d.Name, Rec: d.Rec, E: m.core(&d.E, []int{i})})
	}
	return p, api.Diag{}
}

func (m *model) declFaults(i int) {
	d := m.decls[i]
	m.fault(d.Kind != api.DcLet, api.ErrArg, d.At, []int{i}, -4)
	m.fault(i >= 60, api.ErrLong, d.At, []int{i}, -3)
	for _, x := range m.decls[:i] {
		m.fault(x.Name == d.Name, api.ErrTwice, d.At, []int{i}, -2)
	}
	m.fault(d.Rec && d.E.Kind != api.ExLam, api.ErrRec, d.At, []int{i}, -1)
}

func (m *model) exprFaults(s spot) {
	x := s.x
	tell := func(is bool, e api.Errno, nth int) { m.fault(is, e, x.At, s.way, nth) }
	kids := map[uint8]int{api.ExName: 0, api.ExInt: 0, api.ExStr: 0, api.ExLam: 1, api.ExApp: 2, api.ExLet: 2, api.ExRec: 2, api.ExCase: 1, api.ExCon: len(x.L), api.ExPrim: len(x.L)}
	want, ok := kids[x.Kind]
	tell(!ok || len(x.L) != want, api.ErrArg, 1)
	switch x.Kind {
	case api.ExName:
		_, isBound := m.bound(x.S, s.way)
		_, isTop := m.top(x.S, s.way[0])
		tell(!isBound && !isTop, api.ErrUnknown, 2)
	case api.ExCase:
		tell(len(x.Arms) == 0, api.ErrArg, 1)
	case api.ExCon:
		n := m.con(x.S)
		tell(n < 0, api.ErrUnknown, 2)
		tell(n >= 0 && len(m.sig.Cons[max(n, 0)].Fields) != len(x.L), api.ErrArity, 3)
	case api.ExPrim:
		n := slices.Index(signs(), x.S)
		tell(n <= 0, api.ErrUnknown, 2)
		tell(n > 0 && takes()[max(n, 0)] != len(x.L), api.ErrArity, 3)
	case api.ExRec:
		tell(len(x.L) > 0 && x.L[0].Kind != api.ExLam, api.ErrRec, 2)
	}
	tell(s.name() != nil && m.number(s.way) >= 1<<20, api.ErrLong, 4)
}

func (m *model) patFaults(s spot) {
	p := s.p
	tell := func(is bool, e api.Errno, nth int) { m.fault(is, e, p.At, s.way, nth) }
	tell(p.Kind < 1 || p.Kind > 5 || p.Kind != api.PtCon && len(p.L) > 0, api.ErrArg, 1)
	switch p.Kind {
	case api.PtName:
		for _, t := range m.spots {
			same := slices.Equal(t.arm, s.arm) && t.p.Kind == api.PtName && t.p.S == p.S
			tell(same && slices.Compare(t.way, s.way) < 0, api.ErrTwice, 2)
		}
		tell(m.number(s.way) >= 1<<20, api.ErrLong, 3)
	case api.PtCon:
		n := m.con(p.S)
		tell(n < 0, api.ErrUnknown, 2)
		tell(n >= 0 && len(m.sig.Cons[max(n, 0)].Fields) != len(p.L), api.ErrArity, 3)
	}
}

// core is what x, which has no faults, becomes.
func (m *model) core(x *api.Expr, way []int) api.Core {
	c := api.Core{At: x.At}
	for i := range x.L {
		c.L = append(c.L, m.core(&x.L[i], further(way, 0, i)))
	}
	switch x.Kind {
	case api.ExName:
		n, ok := m.bound(x.S, way)
		c.Kind, c.N = api.CoVar, n
		if !ok {
			c.Kind = api.CoTop
			c.N, _ = m.top(x.S, way[0])
		}
	case api.ExInt:
		c.Kind, c.I = api.CoInt, x.N
	case api.ExStr:
		c.Kind, c.S = api.CoStr, x.S
	case api.ExLam, api.ExLet, api.ExRec:
		c.Kind = map[uint8]uint8{api.ExLam: api.CoLam, api.ExLet: api.CoLet, api.ExRec: api.CoRec}[x.Kind]
		c.N = m.number(way)
	case api.ExApp:
		c.Kind = api.CoApp
	case api.ExCon:
		c.Kind, c.N = api.CoCon, m.con(x.S)
	case api.ExPrim:
		c.Kind, c.N = api.CoPrim, slices.Index(signs(), x.S)
	case api.ExCase:
		c.Kind = api.CoCase
		for i := range x.Arms {
			c.Arms = append(c.Arms, api.CArm{P: m.pat(&x.Arms[i].P, further(way, 1, i, 0)), E: m.core(&x.Arms[i].E, further(way, 1, i, 1))})
		}
	}
	return c
}

func (m *model) pat(p *api.Pat, way []int) api.CPat {
	c := api.CPat{Kind: p.Kind, At: p.At}
	switch p.Kind {
	case api.PtName:
		c.N = m.number(way)
	case api.PtInt:
		c.I = p.N
	case api.PtStr:
		c.S = p.S
	case api.PtCon:
		c.N = m.con(p.S)
	}
	for i := range p.L {
		c.L = append(c.L, m.pat(&p.L[i], further(way, i)))
	}
	return c
}

// modelMay is May: what is forbidden is counted.
func modelMay(p api.Prog) api.Errno {
	faults := number(data.May(p.Sig) != api.OK) + max(0, len(p.Tops)-60) + number(p.Vars < 0 || p.Vars > 1<<20)
	var all []int
	for i, t := range p.Tops {
		tops := i + number(t.Rec)
		faults += number(t.Rec && t.E.Kind != api.CoLam) + coreFaults(p, tops, t.E, nil)
		all = append(all, binders(t.E)...)
	}
	for i, v := range all {
		faults += number(v < 0 || v >= p.Vars || slices.Contains(all[:i], v))
	}
	if faults > 0 {
		return api.ErrArg
	}
	return api.OK
}

// coreFaults is how many faults there are in c where these variables are bound; which ones binders tells is not asked.
func coreFaults(p api.Prog, tops int, c api.Core, bound []int) int {
	kids := map[uint8]int{api.CoVar: 0, api.CoTop: 0, api.CoInt: 0, api.CoStr: 0, api.CoLam: 1, api.CoApp: 2, api.CoLet: 2, api.CoRec: 2, api.CoCase: 1}
	want, ok := kids[c.Kind]
	switch c.Kind {
	case api.CoVar:
		ok = slices.Contains(bound, c.N)
	case api.CoTop:
		ok = c.N >= 0 && c.N < tops
	case api.CoRec:
		ok = len(c.L) > 0 && c.L[0].Kind == api.CoLam
	case api.CoCase:
		ok = len(c.Arms) > 0
	case api.CoCon:
		if ok = c.N >= 0 && c.N < len(p.Sig.Cons); ok {
			want = len(p.Sig.Cons[c.N].Fields)
		}
	case api.CoPrim:
		if ok = c.N >= 1 && c.N <= 18; ok {
			want = takes()[c.N]
		}
	}
	faults := number(!ok || len(c.L) != want)
	for i, x := range c.L {
		faults += coreFaults(p, tops, x, slices.Concat(bound, bindsAt(c, i)))
	}
	if c.Kind == api.CoCase {
		for _, a := range c.Arms {
			faults += patFaults(p, a.P) + coreFaults(p, tops, a.E, slices.Concat(bound, names(a.P)))
		}
	}
	return faults
}

// bindsAt is what c binds in its kid i.
func bindsAt(c api.Core, i int) []int {
	if c.Kind == api.CoLam || c.Kind == api.CoRec || c.Kind == api.CoLet && i > 0 {
		return []int{c.N}
	}
	return nil
}

// binders is all that is bound in c and within, as often as it is.
func binders(c api.Core) []int {
	var l []int
	if c.Kind == api.CoLam || c.Kind == api.CoRec || c.Kind == api.CoLet {
		l = append(l, c.N)
	}
	for _, x := range c.L {
		l = append(l, binders(x)...)
	}
	if c.Kind == api.CoCase {
		for _, a := range c.Arms {
			l = append(append(l, names(a.P)...), binders(a.E)...)
		}
	}
	return l
}

// names is the variables of p, but for those in a PtName.
func names(p api.CPat) []int {
	if p.Kind == api.PtName {
		return []int{p.N}
	}
	var l []int
	for _, x := range p.L {
		l = append(l, names(x)...)
	}
	return l
}

func patFaults(p api.Prog, x api.CPat) int {
	want, ok := 0, x.Kind >= 1 && x.Kind <= 4
	if x.Kind == api.PtCon && x.N >= 0 && x.N < len(p.Sig.Cons) {
		want, ok = len(p.Sig.Cons[x.N].Fields), true
	}
	faults := number(!ok || len(x.L) != want)
	for _, y := range x.L {
		faults += patFaults(p, y)
	}
	return faults
}

// modelFree is Free: what is free in each kid and arm, without what is bound there.
func modelFree(c api.Core) []int {
	var l []int
	if c.Kind == api.CoVar {
		l = append(l, c.N)
	}
	for i, x := range c.L {
		l = append(l, without(modelFree(x), bindsAt(c, i))...)
	}
	if c.Kind == api.CoCase {
		for _, a := range c.Arms {
			l = append(l, without(modelFree(a.E), names(a.P))...)
		}
	}
	slices.Sort(l)
	return slices.Compact(l)
}

func without(l, bound []int) []int {
	return slices.DeleteFunc(l, func(n int) bool { return slices.Contains(bound, n) })
}

func modelSize(c api.Core) int {
	n := 1
	for _, x := range c.L {
		n += modelSize(x)
	}
	for _, a := range c.Arms {
		n += modelSize(a.E)
	}
	return n
}
