package core

import (
	"iter"
	"slices"

	"usufruct/api"
)

// place is where one is within a core: how many of its kids and arms one has gone to, and how much is bound around it.
type place struct {
	c      *api.Core
	gone   int
	around int
}

// through goes over c and over what stands in it, each core ahead of those within; bound is what is bound at the one that is told. Of a core's arms it goes to those that arms tells.
// Where one is, is a list, as a core that is handed in may be deeper than calls go.
func through(c *api.Core, bound *scope[int], arms func(*api.Core) []api.CArm) iter.Seq[*api.Core] {
	return func(yield func(*api.Core) bool) {
		if !yield(c) {
			return
		}
		way := []place{{c: c}}
		for len(way) > 0 {
			kid := way[len(way)-1].next(bound, arms)
			if kid == nil {
				way = way[:len(way)-1]
				continue
			}
			if !yield(kid) {
				return
			}
			way = append(way, place{c: kid, around: len(bound.list)})
		}
	}
}

// next is what is to be gone to next within p's core, nil if that was all; what is bound is as it is there.
func (p *place) next(bound *scope[int], arms func(*api.Core) []api.CArm) *api.Core {
	n := p.gone
	p.gone++
	if n < len(p.c.L) {
		if n == bindsFrom(p.c) {
			bound.bind(p.c.N, 0)
		}
		return &p.c.L[n]
	}
	bound.cut(p.around)
	n -= len(p.c.L)
	l := arms(p.c)
	if n >= len(l) {
		return nil
	}
	for x := range patterns(&l[n].P) {
		if x.Kind == api.PtName {
			bound.bind(x.N, 0)
		}
	}
	return &l[n].E
}

// bindsFrom is the first one of c's kids in which c's variable is bound, -1 if it binds none.
func bindsFrom(c *api.Core) int {
	switch c.Kind {
	case api.CoLam, api.CoRec:
		return 0
	case api.CoLet:
		return 1
	}
	return -1
}

func allArms(c *api.Core) []api.CArm {
	return c.Arms
}

func caseArms(c *api.Core) []api.CArm {
	if c.Kind != api.CoCase {
		return nil
	}
	return c.Arms
}

// patterns goes over p and over what stands in it, but in no PtName.
func patterns(p *api.CPat) iter.Seq[*api.CPat] {
	return func(yield func(*api.CPat) bool) {
		rest := []*api.CPat{p}
		for len(rest) > 0 {
			x := rest[len(rest)-1]
			rest = rest[:len(rest)-1]
			if !yield(x) {
				return
			}
			if x.Kind == api.PtName {
				continue
			}
			for i := range slices.Backward(x.L) {
				rest = append(rest, &x.L[i])
			}
		}
	}
}
