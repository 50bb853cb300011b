package scheme

import (
	"usufruct/api"
	"usufruct/elim"
)

// alone stands where an inequality would have the variable R, if it has none.
const alone = -1

// known is what is always so of the variables of a table, wherever that lets them be.
type known struct{ tab api.Table }

// know tells what is always so where t, of which elim.May is OK, lets it be; ErrClash, if it lets nothing be.
//
// What two variables of a table say of one another may follow from what others say: so it is told anew of the table's inequalities, and is as the variables are then.
func know(t api.Table) (known, api.Errno) {
	l, _ := elim.Ineqs(t)
	var all []int
	for i := range t.Low {
		all = append(all, i)
	}
	tab, e := elim.Project(len(all), l, all)
	return known{tab}, e
}

// follows says whether x is always so.
func (k known) follows(x api.Ineq) bool {
	switch {
	case x.R == alone:
		return k.greatest(x.L) <= x.C
	case x.L.C != 0:
		return x.L.C <= max(x.C, k.tab.Low[x.R])
	}
	return k.tab.Pair[x.L.V][x.R] <= x.C
}

// alike says whether p and q are always the same.
func (k known) alike(p, q api.Mu) bool {
	return k.follows(below(p, api.One, q)) && k.follows(below(q, api.One, p))
}

// greatest is the greatest one that m is.
func (k known) greatest(m api.Mu) api.Mult {
	if m.C == 0 {
		return k.tab.Up[m.V]
	}
	return m.C
}

// below is the inequality that p is not above the greater one of c and q.
func below(p api.Mu, c api.Mult, q api.Mu) api.Ineq {
	if q.C == 0 {
		return api.Ineq{L: p, C: c, R: q.V}
	}
	return api.Ineq{L: p, C: max(c, q.C), R: alone}
}
