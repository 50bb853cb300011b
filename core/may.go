package core

import (
	"usufruct/api"
	"usufruct/data"
)

// checker asks whether a program may be: how many top-level names may stand where it is, which variables are bound somewhere.
type checker struct {
	p    api.Prog
	tops int
	seen map[int]struct{}
}

func isProg(p api.Prog) bool {
	if data.May(p.Sig) != api.OK || len(p.Tops) > api.MaxTops || p.Vars < 0 || p.Vars > api.MaxVars {
		return false
	}
	k := &checker{p: p, seen: map[int]struct{}{}}
	for i := range p.Tops {
		if !k.isTop(i) {
			return false
		}
	}
	return true
}

func (k *checker) isTop(i int) bool {
	t := &k.p.Tops[i]
	k.tops = i
	if t.Rec {
		k.tops++
		if t.E.Kind != api.CoLam {
			return false
		}
	}
	bound := newScope[int]()
	for c := range through(&t.E, bound, caseArms) {
		if len(c.L) != k.kids(c) || !k.isCore(c, bound) {
			return false
		}
	}
	return true
}

// kids is how many kids c must have, -1 if it is of no kind, or what it names is not there.
func (k *checker) kids(c *api.Core) int {
	switch c.Kind {
	case api.CoVar, api.CoTop, api.CoInt, api.CoStr:
		return 0
	case api.CoLam, api.CoCase:
		return 1
	case api.CoApp, api.CoLet, api.CoRec:
		return 2
	case api.CoCon:
		return k.fields(c.N)
	case api.CoPrim:
		if n := Takes(c.N); n > 0 {
			return n
		}
	}
	return -1
}

// fields is how many fields the constructor n has, -1 if there is none.
func (k *checker) fields(n int) int {
	if n < 0 || n >= len(k.p.Sig.Cons) {
		return -1
	}
	return len(k.p.Sig.Cons[n].Fields)
}

// isCore says whether c, which has as many kids as it must have, may stand where that is bound.
func (k *checker) isCore(c *api.Core, bound *scope[int]) bool {
	switch c.Kind {
	case api.CoVar:
		return bound.has(c.N)
	case api.CoTop:
		return c.N >= 0 && c.N < k.tops
	case api.CoLam, api.CoLet:
		return k.binds(c.N)
	case api.CoRec:
		return k.binds(c.N) && c.L[0].Kind == api.CoLam
	case api.CoCase:
		for i := range c.Arms {
			if !k.isPat(&c.Arms[i].P) {
				return false
			}
		}
		return len(c.Arms) > 0
	}
	return true
}

func (k *checker) isPat(p *api.CPat) bool {
	for x := range patterns(p) {
		ok := len(x.L) == 0
		switch x.Kind {
		case api.PtAny, api.PtInt, api.PtStr:
		case api.PtName:
			ok = ok && k.binds(x.N)
		case api.PtCon:
			ok = len(x.L) == k.fields(x.N)
		default:
			ok = false
		}
		if !ok {
			return false
		}
	}
	return true
}

// binds says whether the variable n may be bound, and notes that it is.
func (k *checker) binds(n int) bool {
	_, ok := k.seen[n]
	k.seen[n] = struct{}{}
	return !ok && n >= 0 && n < k.p.Vars
}
