package core

import (
	"slices"

	"usufruct/api"
	"usufruct/data"
)

// resolver makes a program of declarations.
type resolver struct {
	p     api.Prog
	tops  map[string]int // the top-level names that may stand where it is
	bound *scope[string]
	todo  []func() // what is still to be done, the next one last: calls would not go so deep as expressions do that are handed in
	first api.Diag
}

func newResolver(s api.Sig) *resolver {
	return &resolver{p: api.Prog{Sig: s}, tops: map[string]int{}, bound: newScope[string]()}
}

// tell is told an error, if it is wrong there; of all that are told the first one stays. It says whether there is none yet.
func (r *resolver) tell(wrong bool, e api.Errno, at api.Pos) bool {
	if wrong && r.first.E == api.OK {
		r.first = api.Diag{E: e, At: at}
	}
	return r.first.E == api.OK
}

// then puts steps ahead of all that is still to be done.
func (r *resolver) then(steps ...func()) {
	for _, step := range slices.Backward(steps) {
		r.todo = append(r.todo, step)
	}
}

// run does what is to be done, up to the first error, and says whether there is none.
func (r *resolver) run() bool {
	for len(r.todo) > 0 && r.first.E == api.OK {
		step := r.todo[len(r.todo)-1]
		r.todo = r.todo[:len(r.todo)-1]
		step()
	}
	return r.first.E == api.OK
}

// top lays the top-level name that d declares.
func (r *resolver) top(d *api.Decl) bool {
	n := len(r.p.Tops)
	_, twice := r.tops[d.Name]
	r.tell(d.Kind != api.DcLet, api.ErrArg, d.At)
	r.tell(n >= api.MaxTops, api.ErrLong, d.At)
	r.tell(twice, api.ErrTwice, d.At)
	if !r.tell(d.Rec && d.E.Kind != api.ExLam, api.ErrRec, d.At) {
		return false
	}
	if d.Rec {
		r.tops[d.Name] = n
	}
	var e api.Core
	r.then(r.expr(&d.E, &e))
	if !r.run() {
		return false
	}
	r.tops[d.Name] = n
	r.p.Tops = append(r.p.Tops, api.Top{Name: d.Name, Rec: d.Rec, E: e})
	return true
}

// expr is the step that makes c of x.
func (r *resolver) expr(x *api.Expr, c *api.Core) func() {
	return func() {
		if r.tell(!hasKids(x), api.ErrArg, x.At) && r.head(x, c) {
			r.within(x, c)
		}
	}
}

// hasKids says whether x is of a kind, with as many kids as that has.
func hasKids(x *api.Expr) bool {
	switch x.Kind {
	case api.ExName, api.ExInt, api.ExStr:
		return len(x.L) == 0
	case api.ExLam:
		return len(x.L) == 1
	case api.ExApp, api.ExLet, api.ExRec:
		return len(x.L) == 2
	case api.ExCase:
		return len(x.L) == 1 && len(x.Arms) > 0
	}
	return x.Kind == api.ExCon || x.Kind == api.ExPrim
}

// head makes c of x, but for what stands within.
func (r *resolver) head(x *api.Expr, c *api.Core) bool {
	c.At = x.At
	switch x.Kind {
	case api.ExName:
		c.Kind, c.N = r.named(x)
	case api.ExInt:
		c.Kind, c.I = api.CoInt, x.N
	case api.ExStr:
		c.Kind, c.S = api.CoStr, x.S
	case api.ExLam:
		c.Kind, c.N = api.CoLam, r.variable(x.At)
	case api.ExApp:
		c.Kind = api.CoApp
	case api.ExLet:
		c.Kind, c.N = api.CoLet, r.variable(x.At)
	case api.ExRec:
		r.tell(x.L[0].Kind != api.ExLam, api.ErrRec, x.At)
		c.Kind, c.N = api.CoRec, r.variable(x.At)
	case api.ExCase:
		c.Kind = api.CoCase
	case api.ExCon:
		c.Kind, c.N = api.CoCon, r.con(x.S, len(x.L), x.At)
	case api.ExPrim:
		n, takes := Prim(x.S)
		r.tell(n == 0, api.ErrUnknown, x.At)
		r.tell(len(x.L) != takes, api.ErrArity, x.At)
		c.Kind, c.N = api.CoPrim, n
	}
	return r.first.E == api.OK
}

// within has c's kids and arms made of x's.
func (r *resolver) within(x *api.Expr, c *api.Core) {
	if len(x.L) == 0 {
		return
	}
	c.L = make([]api.Core, len(x.L))
	var steps []func()
	for i := range x.L {
		steps = append(steps, r.expr(&x.L[i], &c.L[i]))
	}
	into := func() { r.bound.bind(x.S, c.N) }
	around := len(r.bound.list)
	leave := func() { r.bound.cut(around) }
	if from := bindsFrom(c); from >= 0 {
		steps = append(slices.Insert(steps, from, into), leave)
	}
	if x.Kind == api.ExCase {
		c.Arms = make([]api.CArm, len(x.Arms))
		for i := range x.Arms {
			from, to := &x.Arms[i], &c.Arms[i]
			steps = append(steps, r.pat(around, &from.P, &to.P), r.expr(&from.E, &to.E), leave)
		}
	}
	r.then(steps...)
}

// pat is the step that makes c of x, in a pattern whose first name is bound behind so many.
func (r *resolver) pat(around int, x *api.Pat, c *api.CPat) func() {
	return func() {
		isCon := x.Kind == api.PtCon
		r.tell(x.Kind < api.PtName || x.Kind > api.PtCon || len(x.L) > 0 && !isCon, api.ErrArg, x.At)
		c.Kind, c.At = x.Kind, x.At
		switch x.Kind {
		case api.PtName:
			r.tell(r.bound.hasFrom(around, x.S), api.ErrTwice, x.At)
			c.N = r.variable(x.At)
			r.bound.bind(x.S, c.N)
		case api.PtInt:
			c.I = x.N
		case api.PtStr:
			c.S = x.S
		case api.PtCon:
			c.N = r.con(x.S, len(x.L), x.At)
		}
		if r.first.E != api.OK || len(x.L) == 0 {
			return
		}
		c.L = make([]api.CPat, len(x.L))
		for i := range slices.Backward(x.L) {
			r.then(r.pat(around, &x.L[i], &c.L[i]))
		}
	}
}

// named is the kind and the number of what the name x stands for.
func (r *resolver) named(x *api.Expr) (uint8, int) {
	if n, ok := r.bound.find(x.S); ok {
		return api.CoVar, n
	}
	n, ok := r.tops[x.S]
	r.tell(!ok, api.ErrUnknown, x.At)
	return api.CoTop, n
}

// con is the number of the constructor of that name, which is to have so many fields.
func (r *resolver) con(name string, fields int, at api.Pos) int {
	n, ok := data.Con(r.p.Sig, name)
	if r.tell(!ok, api.ErrUnknown, at) {
		r.tell(len(r.p.Sig.Cons[n].Fields) != fields, api.ErrArity, at)
	}
	return n
}

// variable is the number of one more variable.
func (r *resolver) variable(at api.Pos) int {
	r.tell(r.p.Vars >= api.MaxVars, api.ErrLong, at)
	r.p.Vars++
	return r.p.Vars - 1
}
