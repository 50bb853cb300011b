package elim

import (
	"math"
	"slices"
	"strings"
	"testing"

	"usufruct/api"
	"usufruct/ineq"
	"usufruct/least"
)

// The tests hold the package against the words of the document: over all inequalities of few variables, by all assignments of these; over many of more variables; and over ways, rings and stars of as many as may be.

const (
	one    = api.One
	affine = api.Affine
	many   = api.Many
)

func constant(c api.Mult) api.Mu { return api.Mu{C: c} }

func variable(v int) api.Mu { return api.Mu{V: v} }

// upTo is the inequality that l is not above the greater one of c and the variable r.
func upTo(l api.Mu, c api.Mult, r int) api.Ineq { return api.Ineq{L: l, C: c, R: r} }

// below is the inequality that l is not above c.
func below(l api.Mu, c api.Mult) api.Ineq { return api.Ineq{L: l, C: c, R: -1} }

// edge is the inequality that the variable v is not above the variable w.
func edge(v, w int) api.Ineq { return upTo(variable(v), one, w) }

// atLeast is the inequality that m is not above the variable v.
func atLeast(m api.Mult, v int) api.Ineq { return upTo(constant(m), one, v) }

// ineqs is all inequalities between n variables, but those that hold whatever these are.
func ineqs(n int) []api.Ineq {
	lefts := []api.Mu{constant(affine), constant(many)}
	for v := range n {
		lefts = append(lefts, variable(v))
	}
	var all []api.Ineq
	for _, l := range lefts {
		for c := one; c < many; c++ {
			for r := -1; r < n; r++ {
				if l.C > c || l.C == 0 && r != l.V {
					all = append(all, upTo(l, c, r))
				}
			}
		}
	}
	return all
}

// assignments is all assignments of n multiplicities.
func assignments(n int) [][]api.Mult {
	all := [][]api.Mult{nil}
	for range n {
		var more [][]api.Mult
		for _, asg := range all {
			for m := one; m <= many; m++ {
				more = append(more, append(slices.Clip(asg), m))
			}
		}
		all = more
	}
	return all
}

// keeps is each list of variables below n, no two the same.
func keeps(n int) [][]int {
	all := [][]int{nil}
	for i := 0; i < len(all); i++ {
		for v := range n {
			if !slices.Contains(all[i], v) {
				all = append(all, append(slices.Clip(all[i]), v))
			}
		}
	}
	return all
}

func text(l []api.Ineq) string {
	var parts []string
	for _, x := range l {
		parts = append(parts, ineq.Text(x))
	}
	return strings.Join(parts, "; ")
}

// holds is the words of the document of one inequality (3).
func holds(x api.Ineq, asg []api.Mult) bool {
	left := x.L.C
	if left == 0 {
		left = asg[x.L.V]
	}
	return left <= x.C || x.R != -1 && left <= asg[x.R]
}

func allHold(l []api.Ineq, asg []api.Mult) bool {
	return !slices.ContainsFunc(l, func(x api.Ineq) bool { return !holds(x, asg) })
}

// solutions tells by all assignments what solves l.
func solutions(n int, l []api.Ineq) [][]api.Mult {
	return slices.DeleteFunc(assignments(n), func(asg []api.Mult) bool { return !allHold(l, asg) })
}

func picked(asg []api.Mult, keep []int) []api.Mult {
	var some []api.Mult
	for _, v := range keep {
		some = append(some, asg[v])
	}
	return some
}

// mayBe is what may be of keep, rising, if solved is all solutions.
func mayBe(solved [][]api.Mult, keep []int) [][]api.Mult {
	var all [][]api.Mult
	for _, asg := range solved {
		all = append(all, picked(asg, keep))
	}
	slices.SortFunc(all, slices.Compare)
	return slices.CompactFunc(all, slices.Equal)
}

// tableOf is the words of the document of the table of k variables of which may is what may be.
func tableOf(k int, may [][]api.Mult) api.Table {
	t := api.Table{Low: slices.Repeat([]api.Mult{many}, k), Up: slices.Repeat([]api.Mult{one}, k)}
	for range k {
		t.Pair = append(t.Pair, slices.Repeat([]api.Mult{one}, k))
	}
	for _, asg := range may {
		for i, m := range asg {
			t.Low[i], t.Up[i] = min(t.Low[i], m), max(t.Up[i], m)
			for j, other := range asg {
				if m > other {
					t.Pair[i][j] = max(t.Pair[i][j], m)
				}
			}
		}
	}
	return t
}

// lets is the words of the document of a table that may be.
func lets(t api.Table, asg []api.Mult) bool {
	for i, m := range asg {
		if m < t.Low[i] || t.Up[i] < m {
			return false
		}
		for j, other := range asg {
			if m > t.Pair[i][j] && m > other {
				return false
			}
		}
	}
	return true
}

func bare(t api.Table) bool { return len(t.Low)+len(t.Up)+len(t.Pair) == 0 }

// sameTable holds tables against each other without the package.
func sameTable(a, b api.Table) bool {
	if len(a.Pair) != len(b.Pair) {
		return false
	}
	for i := range a.Pair {
		if !slices.Equal(a.Pair[i], b.Pair[i]) {
			return false
		}
	}
	return slices.Equal(a.Low, b.Low) && slices.Equal(a.Up, b.Up)
}

func copied(t api.Table) api.Table {
	c := api.Table{Low: slices.Clone(t.Low), Up: slices.Clone(t.Up), Pair: slices.Clone(t.Pair)}
	for i := range c.Pair {
		c.Pair[i] = slices.Clone(c.Pair[i])
	}
	return c
}

// check holds what Project tells against the words of the document, if solved is all solutions.
func check(t *testing.T, n int, l []api.Ineq, keep []int, solved [][]api.Mult) {
	t.Helper()
	tab, e := Project(n, l, keep)
	if len(solved) == 0 {
		if e != api.ErrClash || !bare(tab) {
			t.Fatalf("%s: %v, %d, not a clash", text(l), tab, e)
		}
		return
	}
	may := mayBe(solved, keep)
	if want := tableOf(len(keep), may); e != api.OK || !sameTable(tab, want) {
		t.Fatalf("%s: of %v %v, %d, not %v", text(l), keep, tab, e, want)
	}
	for _, asg := range assignments(len(keep)) {
		_, is := slices.BinarySearchFunc(may, asg, slices.Compare)
		if Lets(tab, asg) != is {
			t.Fatalf("%s: of %v is %v let be: %v", text(l), keep, asg, !is)
		}
	}
}

// picks is a row of numbers that jumps about, the same each time.
type picks uint64

// below is the next number, from 0 to n - 1.
func (p *picks) below(n int) int {
	*p = *p*6364136223846793005 + 1442695040888963407
	return int(uint64(*p) >> 33 % uint64(n))
}

// mult is the next multiplicity, mostly a small one.
func (p *picks) mult() api.Mult {
	return []api.Mult{one, one, one, affine, affine, many}[p.below(6)]
}

// ineqs is count inequalities between n variables, most of which hand something on.
func (p *picks) ineqs(n, count int) []api.Ineq {
	var l []api.Ineq
	for range count {
		x := upTo(variable(p.below(n)), p.mult(), p.below(n))
		switch p.below(12) {
		case 0:
			x.L = constant(p.mult())
		case 1:
			x.R = -1
		}
		l = append(l, x)
	}
	return l
}

// keep is up to k variables below n, in any order.
func (p *picks) keep(n, k int) []int {
	var keep []int
	for range k {
		if v := p.below(n); !slices.Contains(keep, v) {
			keep = append(keep, v)
		}
	}
	return keep
}

// table is one of k variables, which need not be one that Project tells.
func (p *picks) table(k int) api.Table {
	t := api.Table{Pair: make([][]api.Mult, k)}
	for i := range k {
		t.Low = append(t.Low, p.mult())
		t.Up = append(t.Up, 4-p.mult())
		for range k {
			t.Pair[i] = append(t.Pair[i], one+api.Mult(p.below(3)))
		}
	}
	return t
}

// plain is the table of k variables that lets all be, but for what i and j say of one another.
func plain(k int) api.Table {
	t := api.Table{Low: slices.Repeat([]api.Mult{one}, k), Up: slices.Repeat([]api.Mult{many}, k)}
	for i := range k {
		row := slices.Repeat([]api.Mult{many}, k)
		row[i] = one
		t.Pair = append(t.Pair, row)
	}
	return t
}

func TestP51Examples(t *testing.T) {
	for _, x := range []struct {
		l    []api.Ineq
		want api.Table
	}{
		{[]api.Ineq{edge(0, 1), upTo(variable(1), affine, 2)}, api.Table{Low: []api.Mult{one, one}, Up: []api.Mult{many, many}, Pair: [][]api.Mult{{one, affine}, {many, one}}}},
		{[]api.Ineq{atLeast(affine, 0), edge(0, 1), edge(1, 2)}, api.Table{Low: []api.Mult{affine, affine}, Up: []api.Mult{many, many}, Pair: [][]api.Mult{{one, one}, {many, one}}}},
		{[]api.Ineq{below(variable(2), affine), edge(2, 0)}, api.Table{Low: []api.Mult{one, one}, Up: []api.Mult{many, affine}, Pair: [][]api.Mult{{one, many}, {one, one}}}},
	} {
		if tab, e := Project(4, x.l, []int{0, 2}); e != api.OK || !sameTable(tab, x.want) {
			t.Errorf("%s: %v, %d, not %v", text(x.l), tab, e, x.want)
		}
	}
	if tab, e := Project(4, []api.Ineq{atLeast(many, 1), below(variable(1), one)}, []int{0, 2}); e != api.ErrClash || !bare(tab) {
		t.Error(tab, e)
	}
}

func TestP51OfNone(t *testing.T) {
	for _, keep := range [][]int{nil, {}} {
		for _, l := range [][]api.Ineq{nil, {}, {below(constant(one), one)}} {
			for _, n := range []int{0, 3} {
				if tab, e := Project(n, l, keep); e != api.OK || !bare(tab) || !Lets(tab, nil) || !Lets(tab, []api.Mult{}) || Lets(tab, []api.Mult{one}) {
					t.Error(n, l, tab, e)
				}
			}
		}
		if tab, e := Project(0, []api.Ineq{below(constant(affine), one)}, keep); e != api.ErrClash || !bare(tab) {
			t.Error(tab, e)
		}
	}
	check(t, 2, nil, []int{1, 0}, assignments(2))
}

// All inequalities of three variables, each two of them, and of two variables, each three: by all assignments, whatever is kept.
func TestP51Few(t *testing.T) {
	for _, x := range ineqs(3) {
		for _, y := range ineqs(3) {
			l := []api.Ineq{x, y}
			solved := solutions(3, l)
			for _, keep := range [][]int{{0, 1, 2}, {2, 0}, {1}} {
				check(t, 3, l, keep, solved)
			}
		}
	}
	for _, x := range ineqs(2) {
		for _, y := range ineqs(2) {
			for _, z := range ineqs(2) {
				l := []api.Ineq{x, y, z}
				solved := solutions(2, l)
				for _, keep := range keeps(2) {
					check(t, 2, l, keep, solved)
				}
			}
		}
	}
}

func TestP51AllKeeps(t *testing.T) {
	p := picks(1)
	for range 150 {
		l := p.ineqs(4, p.below(9))
		solved := solutions(4, l)
		for _, keep := range keeps(4) {
			check(t, 4, l, keep, solved)
		}
	}
}

func TestP51Many(t *testing.T) {
	p := picks(2)
	for range 6000 {
		n := 1 + p.below(6)
		l := p.ineqs(n, p.below(3*n))
		check(t, n, l, p.keep(n, p.below(n+1)), solutions(n, l))
	}
}

// What is not always so of the inequalities' own words: what Low and Up say goes into Pair, and one multiplicity is handed on by other ways than the other one.
func TestP51Pairs(t *testing.T) {
	for _, x := range []struct {
		name string
		l    []api.Ineq
		ab   api.Mult
		ba   api.Mult
	}{
		{"nothing", nil, many, many},
		{"a is One", []api.Ineq{below(variable(0), one)}, one, many},
		{"a is Affine at most", []api.Ineq{below(variable(0), affine)}, affine, many},
		{"b is Many", []api.Ineq{atLeast(many, 1)}, one, many},
		{"b is Affine at least", []api.Ineq{atLeast(affine, 1)}, many, many},
		{"b is Affine at least, a at most", []api.Ineq{atLeast(affine, 1), below(variable(0), affine)}, one, many},
		{"as much by two ways", []api.Ineq{upTo(variable(0), affine, 2), edge(2, 1), upTo(variable(0), affine, 3), edge(3, 1)}, affine, many},
		{"all by one of two ways", []api.Ineq{upTo(variable(0), affine, 2), edge(2, 1), edge(0, 3), edge(3, 1)}, one, many},
		{"a way with a piece that hands nothing on", []api.Ineq{edge(0, 2), upTo(variable(2), many, 3), edge(3, 1)}, many, many},
		{"a ring", []api.Ineq{edge(0, 2), edge(2, 1), edge(1, 3), edge(3, 0)}, one, one},
		{"a ring of Many alone", []api.Ineq{edge(0, 2), edge(2, 1), edge(1, 3), upTo(variable(3), affine, 0)}, one, affine},
		{"a way to a wall of Many", []api.Ineq{edge(0, 2), upTo(variable(2), affine, 3), below(variable(3), one), edge(0, 1)}, one, many},
	} {
		tab, e := Project(4, x.l, []int{0, 1})
		if e != api.OK || len(tab.Pair) != 2 || !slices.Equal(tab.Pair[0], []api.Mult{one, x.ab}) || !slices.Equal(tab.Pair[1], []api.Mult{x.ba, one}) {
			t.Errorf("%s: %v, %d", x.name, tab, e)
		}
		check(t, 4, x.l, []int{0, 1}, solutions(4, x.l))
	}
}

// closed is the table of all of n variables, by plain rounds, of inequalities that force none of them.
func closed(n int, l []api.Ineq) api.Table {
	t := plain(n)
	for _, x := range l {
		if x.R != -1 {
			t.Pair[x.L.V][x.R] = min(t.Pair[x.L.V][x.R], x.C)
		} else {
			t.Up[x.L.V] = min(t.Up[x.L.V], x.C)
		}
	}
	for k := range n {
		for i := range n {
			for j := range n {
				t.Pair[i][j] = min(t.Pair[i][j], max(t.Pair[i][k], t.Pair[k][j]))
			}
		}
	}
	for i := range n {
		for j, c := range t.Pair[i] {
			t.Up[i] = min(t.Up[i], max(c, t.Up[j]))
		}
	}
	for i := range n {
		for j := range n {
			t.Pair[i][j] = min(t.Pair[i][j], t.Up[i])
		}
	}
	return t
}

// As many as may be kept, with few and with many inequalities between them.
func TestP51AsManyAsMayBe(t *testing.T) {
	p := picks(3)
	for i := range 60 {
		n := api.MaxKeep - i%3
		l := slices.DeleteFunc(p.ineqs(n, p.below(3*n)), func(x api.Ineq) bool { return x.L.C != 0 || x.R == -1 && i%2 == 0 })
		keep := p.keep(n, 3*n)
		for v := range n {
			if !slices.Contains(keep, v) {
				keep = append(keep, v)
			}
		}
		tab, e := Project(n, l, keep)
		all := closed(n, l)
		want := plain(n)
		for i, v := range keep {
			want.Low[i], want.Up[i] = all.Low[v], all.Up[v]
			for j, w := range keep {
				want.Pair[i][j] = all.Pair[v][w]
			}
		}
		if e != api.OK || !sameTable(tab, want) {
			t.Fatalf("%d: of %d variables by %d inequalities: %d", i, n, len(l), e)
		}
	}
}

// spread is as many variables as may be kept, of which the one at i is i * step.
func spread(step int) []int {
	var keep []int
	for i := range api.MaxKeep {
		keep = append(keep, i*step)
	}
	return keep
}

// handed is the table of variables each of which hands all but c on to those that come behind it.
func handed(k int, c api.Mult) api.Table {
	t := plain(k)
	for i := range k {
		for j := i + 1; j < k; j++ {
			t.Pair[i][j] = c
		}
	}
	return t
}

// A way through all variables that may be, from which as many are kept as may be; and the ring that it is with one more.
func TestP51LongWays(t *testing.T) {
	const step = api.MaxVars / api.MaxKeep
	keep := spread(step)
	var l []api.Ineq
	for v := range api.MaxVars - 1 {
		c := one
		if v == 70*step {
			c = affine
		}
		l = append(l, upTo(variable(v), c, v+1))
	}
	want := handed(api.MaxKeep, one)
	for i := range 71 {
		for j := 71; j < api.MaxKeep; j++ {
			want.Pair[i][j] = affine
		}
	}
	for range 2 {
		if tab, e := Project(api.MaxVars, l, keep); e != api.OK || !sameTable(tab, want) {
			t.Error("a long way", e)
		}
		slices.Reverse(l)
	}
	ring := append(slices.Clip(l), edge(api.MaxVars-1, 0))
	for i := range want.Pair {
		for j, c := range want.Pair[i] {
			want.Pair[i][j] = min(c, affine)
		}
	}
	for i := range 71 {
		for j := 71; j < api.MaxKeep; j++ {
			want.Pair[j][i] = one
		}
		for j := range i {
			want.Pair[i][j] = affine
		}
	}
	for i := 71; i < api.MaxKeep; i++ {
		for j := 71; j < i; j++ {
			want.Pair[i][j] = affine
		}
	}
	if tab, e := Project(api.MaxVars, ring, keep); e != api.OK || !sameTable(tab, want) {
		t.Error("a long ring", e)
	}
	wall := append(slices.Clip(l), below(variable(api.MaxVars-1), one))
	tab, e := Project(api.MaxVars, wall, keep)
	if e != api.OK || slices.ContainsFunc(tab.Up[:71], func(m api.Mult) bool { return m != affine }) || slices.ContainsFunc(tab.Up[71:], func(m api.Mult) bool { return m != one }) {
		t.Error("a long way to a wall", e, tab.Up)
	}
}

// Each of many variables hangs on each one of a few, and these on all of them.
func TestP51Stars(t *testing.T) {
	var l []api.Ineq
	for v := 1; v < api.MaxVars/2; v++ {
		l = append(l, edge(v, 0), upTo(variable(0), affine, v))
	}
	keep := spread(3000)
	want := plain(api.MaxKeep)
	for i := range want.Pair {
		for j := range want.Pair {
			if i != j {
				want.Pair[i][j] = affine
			}
		}
		want.Pair[i][0] = one
	}
	if tab, e := Project(api.MaxVars/2, l, keep); e != api.OK || !sameTable(tab, want) {
		t.Error(e)
	}
}

func TestP51Refused(t *testing.T) {
	clash := []api.Ineq{below(constant(many), one)}
	wrong := []api.Ineq{{R: -7}}
	long := slices.Repeat([]api.Ineq{below(constant(one), one)}, api.MaxIneqs+1)
	tooMany := slices.Repeat([]int{-1}, api.MaxKeep+1)
	var right []int
	for v := range api.MaxKeep + 1 {
		right = append(right, v)
	}
	for _, x := range []struct {
		name string
		n    int
		l    []api.Ineq
		keep []int
		want api.Errno
	}{
		{"one too many is kept", 1000, nil, right, api.ErrLong},
		{"far too many are kept", 1000, nil, slices.Repeat(right, 1000), api.ErrLong},
		{"one too many, of too few", -1, clash, right, api.ErrLong},
		{"one too many, which are none", 10, wrong, tooMany, api.ErrLong},
		{"too many variables", api.MaxVars + 1, nil, nil, api.ErrLong},
		{"far too many variables", math.MaxInt, wrong, []int{-1}, api.ErrLong},
		{"too many inequalities", 3, long, []int{0, 0}, api.ErrLong},
		{"less than none", -1, nil, nil, api.ErrArg},
		{"far less than none", math.MinInt, nil, nil, api.ErrArg},
		{"no inequality", 3, wrong, nil, api.ErrArg},
		{"no inequality, and a clash", 3, append(slices.Clip(clash), wrong...), nil, api.ErrArg},
		{"an inequality of the variable n", 3, []api.Ineq{edge(2, 3)}, []int{0}, api.ErrArg},
		{"a clash", 3, clash, []int{0, 1, 2}, api.ErrClash},
		{"a clash of what is not kept", 3, []api.Ineq{atLeast(affine, 2), edge(2, 1), below(variable(1), one)}, []int{0}, api.ErrClash},
		{"a clash, and n is kept", 3, clash, []int{3}, api.ErrClash},
		{"a clash, and one is kept twice", 3, clash, []int{1, 1}, api.ErrClash},
		{"n is kept", 3, nil, []int{0, 3}, api.ErrArg},
		{"0 of none is kept", 0, nil, []int{0}, api.ErrArg},
		{"-1 is kept", 3, nil, []int{-1, 0}, api.ErrArg},
		{"a far lesser one is kept", 3, nil, []int{math.MinInt}, api.ErrArg},
		{"a far greater one is kept", 3, nil, []int{math.MaxInt}, api.ErrArg},
		{"one is kept twice", 3, nil, []int{1, 1}, api.ErrArg},
		{"one is kept twice, not side by side", 3, nil, []int{2, 0, 1, 2}, api.ErrArg},
		{"as many as may be, one of them twice", 1000, nil, append(right[:api.MaxKeep-1:api.MaxKeep-1], 0), api.ErrArg},
	} {
		if tab, e := Project(x.n, x.l, x.keep); e != x.want || !bare(tab) {
			t.Errorf("%s: %v, %d, not %d", x.name, tab, e, x.want)
		}
	}
	if tab, e := Project(api.MaxVars, long[:api.MaxIneqs], right[1:]); e != api.OK || !sameTable(tab, plain(api.MaxKeep)) {
		t.Error("as many as may be", e)
	}
}

func TestP51KeepsItsLists(t *testing.T) {
	l := []api.Ineq{edge(2, 1), edge(1, 3), below(variable(3), affine), atLeast(affine, 2), edge(3, 2)}
	keep := []int{3, 1, 0}
	before := slices.Clone(l)
	tab, _ := Project(4, l, keep)
	again, _ := Project(4, l, keep)
	if !slices.Equal(l, before) || !slices.Equal(keep, []int{3, 1, 0}) {
		t.Error("a list was changed", l, keep)
	}
	if !sameTable(tab, again) {
		t.Error("asked twice", tab, again)
	}
	want := copied(tab)
	clear(again.Low)
	clear(again.Up)
	for _, row := range again.Pair {
		clear(row)
	}
	if !sameTable(tab, want) {
		t.Error("two answers share a list")
	}
	lists := append([][]api.Mult{tab.Low, tab.Up}, tab.Pair...)
	for _, m := range lists {
		clear(append(m, 9)[len(m):])
	}
	if !sameTable(tab, want) {
		t.Error("two lists of an answer share", tab)
	}
}

func TestP52May(t *testing.T) {
	k := api.MaxKeep
	change := func(k int, do func(t *api.Table)) api.Table {
		t := plain(k)
		do(&t)
		return t
	}
	for _, x := range []struct {
		name string
		t    api.Table
		want api.Errno
	}{
		{"none", api.Table{}, api.OK},
		{"empty lists", api.Table{Low: []api.Mult{}, Up: []api.Mult{}, Pair: [][]api.Mult{}}, api.OK},
		{"one", plain(1), api.OK},
		{"as many as may be", plain(k), api.OK},
		{"one that lets nothing be", change(2, func(t *api.Table) { t.Low[1], t.Up[1] = many, one }), api.OK},
		{"a variable above itself", change(2, func(t *api.Table) { t.Pair[1][1] = many }), api.OK},
		{"one too many", plain(k + 1), api.ErrLong},
		{"Low of one too many", change(k, func(t *api.Table) { t.Low = append(t.Low, one) }), api.ErrLong},
		{"Up of one too many", change(k, func(t *api.Table) { t.Up = append(t.Up, one) }), api.ErrLong},
		{"Pair of one too many", change(k, func(t *api.Table) { t.Pair = append(t.Pair, nil) }), api.ErrLong},
		{"Low alone of too many", api.Table{Low: make([]api.Mult, k+1)}, api.ErrLong},
		{"Up alone of too many", api.Table{Up: make([]api.Mult, 1000)}, api.ErrLong},
		{"Pair alone of too many", api.Table{Pair: make([][]api.Mult, k+1)}, api.ErrLong},
		{"a row of one too many", change(k, func(t *api.Table) { t.Pair[7] = append(t.Pair[7], one) }), api.ErrArg},
		{"rows of too many", change(2, func(t *api.Table) { t.Pair[0] = make([]api.Mult, k+1) }), api.ErrArg},
		{"Low alone", api.Table{Low: []api.Mult{one}}, api.ErrArg},
		{"Up alone", api.Table{Up: []api.Mult{one}}, api.ErrArg},
		{"Pair alone", api.Table{Pair: [][]api.Mult{{one}}}, api.ErrArg},
		{"Pair of empty rows alone", api.Table{Pair: [][]api.Mult{nil, {}}}, api.ErrArg},
		{"no Low", change(2, func(t *api.Table) { t.Low = nil }), api.ErrArg},
		{"no Up", change(2, func(t *api.Table) { t.Up = nil }), api.ErrArg},
		{"no Pair", change(2, func(t *api.Table) { t.Pair = nil }), api.ErrArg},
		{"Low of one more", change(2, func(t *api.Table) { t.Low = append(t.Low, one) }), api.ErrArg},
		{"Low of one less", change(2, func(t *api.Table) { t.Low = t.Low[1:] }), api.ErrArg},
		{"Up of one more", change(2, func(t *api.Table) { t.Up = append(t.Up, one) }), api.ErrArg},
		{"Up of one less", change(2, func(t *api.Table) { t.Up = t.Up[1:] }), api.ErrArg},
		{"one row more", change(2, func(t *api.Table) { t.Pair = append(t.Pair, t.Pair[0]) }), api.ErrArg},
		{"one row less", change(2, func(t *api.Table) { t.Pair = t.Pair[1:] }), api.ErrArg},
		{"a row that is longer", change(2, func(t *api.Table) { t.Pair[1] = append(t.Pair[1], one) }), api.ErrArg},
		{"a row that is shorter", change(2, func(t *api.Table) { t.Pair[0] = t.Pair[0][1:] }), api.ErrArg},
		{"no row", change(2, func(t *api.Table) { t.Pair[1] = nil }), api.ErrArg},
		{"Low of 0", change(2, func(t *api.Table) { t.Low[1] = 0 }), api.ErrArg},
		{"Low of 4", change(2, func(t *api.Table) { t.Low[0] = 4 }), api.ErrArg},
		{"Up of 0", change(2, func(t *api.Table) { t.Up[0] = 0 }), api.ErrArg},
		{"Up of 4", change(2, func(t *api.Table) { t.Up[1] = 4 }), api.ErrArg},
		{"Pair of 0", change(2, func(t *api.Table) { t.Pair[1][0] = 0 }), api.ErrArg},
		{"Pair of 255", change(2, func(t *api.Table) { t.Pair[0][1] = 255 }), api.ErrArg},
		{"Pair of 0, of one with itself", change(2, func(t *api.Table) { t.Pair[1][1] = 0 }), api.ErrArg},
	} {
		if e := May(x.t); e != x.want {
			t.Errorf("May, %s: %d, not %d", x.name, e, x.want)
		}
		l, e := Ineqs(x.t)
		if e != x.want || e != api.OK && len(l) != 0 {
			t.Errorf("Ineqs, %s: %d, not %d", x.name, e, x.want)
		}
		if x.want == api.OK {
			continue
		}
		for _, k := range []int{0, 1, 2, 3, len(x.t.Low), len(x.t.Up), len(x.t.Pair)} {
			for m := range api.Mult(5) {
				if Lets(x.t, slices.Repeat([]api.Mult{m}, k)) {
					t.Errorf("Lets, %s: %d times %d", x.name, k, m)
				}
			}
		}
	}
}

// Any table that may be, by its words, whether Project tells it or not.
func TestP52Lets(t *testing.T) {
	p := picks(4)
	for range 3000 {
		k := p.below(5)
		tab := p.table(k)
		before := copied(tab)
		for _, asg := range assignments(k) {
			if Lets(tab, asg) != lets(tab, asg) {
				t.Fatalf("%v: %v", tab, asg)
			}
		}
		if !sameTable(tab, before) {
			t.Fatal("a list was changed")
		}
	}
}

func TestP52LetsOthers(t *testing.T) {
	tab := plain(3)
	for _, asg := range [][]api.Mult{nil, {}, {one, one}, {one, one, one, one}, {0, one, one}, {one, one, 0}, {4, many, many}, {many, many, 4}, {many, 255, many}} {
		if Lets(tab, asg) {
			t.Error(asg)
		}
	}
	for _, asg := range assignments(3) {
		if !Lets(tab, asg) {
			t.Error(asg)
		}
	}
	long := slices.Repeat([]api.Mult{affine}, api.MaxKeep)
	if tab = plain(api.MaxKeep); !Lets(tab, long) || Lets(tab, append(long, affine)) || Lets(tab, long[1:]) {
		t.Error("as many as may be")
	}
	tab.Pair[api.MaxKeep-1][0] = one
	if long[0] = one; Lets(tab, long) {
		t.Error("the last one above the first one")
	}
}

func TestP53Ineqs(t *testing.T) {
	tab := api.Table{
		Low:  []api.Mult{one, affine, many},
		Up:   []api.Mult{many, affine, one},
		Pair: [][]api.Mult{{many, one, many}, {affine, one, many}, {one, affine, affine}},
	}
	l, e := Ineqs(tab)
	want := []api.Ineq{
		edge(0, 1),
		atLeast(affine, 1), below(variable(1), affine), upTo(variable(1), affine, 0),
		atLeast(many, 2), below(variable(2), one), edge(2, 0), upTo(variable(2), affine, 1),
	}
	if e != api.OK || !slices.Equal(l, want) {
		t.Errorf("%s, %d, not %s", text(l), e, text(want))
	}
	for k := range api.MaxKeep + 1 {
		if l, e := Ineqs(plain(k)); e != api.OK || len(l) != 0 {
			t.Error(k, text(l), e)
		}
	}
}

func TestP53HoldJustThere(t *testing.T) {
	p := picks(5)
	for range 3000 {
		k := p.below(5)
		tab := p.table(k)
		l, e := Ineqs(tab)
		if e != api.OK {
			t.Fatal(tab, e)
		}
		for _, x := range l {
			if ineq.May(x) != api.OK || x.L.C == 0 && x.L.V >= k || x.R >= k {
				t.Fatalf("%v: %s may not be", tab, ineq.Text(x))
			}
		}
		for _, asg := range assignments(k) {
			if allHold(l, asg) != lets(tab, asg) {
				t.Fatalf("%v: %s of %v", tab, text(l), asg)
			}
		}
	}
}

// What is told is told in order, by the words of the document.
func TestP53Order(t *testing.T) {
	p := picks(6)
	for i := range 300 {
		k := p.below(9)
		if i == 0 {
			k = api.MaxKeep
		}
		tab := p.table(k)
		var want []api.Ineq
		for i := range k {
			if tab.Low[i] != one {
				want = append(want, atLeast(tab.Low[i], i))
			}
			if tab.Up[i] != many {
				want = append(want, below(variable(i), tab.Up[i]))
			}
			for j := range k {
				if i != j && tab.Pair[i][j] != many {
					want = append(want, upTo(variable(i), tab.Pair[i][j], j))
				}
			}
		}
		before := copied(tab)
		l, e := Ineqs(tab)
		if e != api.OK || !slices.Equal(l, want) {
			t.Fatalf("%v: %s, %d", tab, text(l), e)
		}
		clear(l)
		if again, _ := Ineqs(tab); !slices.Equal(again, want) || !sameTable(tab, before) {
			t.Fatal("two answers share a list, or a list was changed")
		}
	}
}

func TestP53Same(t *testing.T) {
	none := api.Table{}
	empty := api.Table{Low: []api.Mult{}, Up: []api.Mult{}, Pair: [][]api.Mult{}}
	if !Same(none, empty) || !Same(empty, none) || !Same(none, none) {
		t.Error("none and empty lists")
	}
	p := picks(7)
	for range 300 {
		tab := p.table(1 + p.below(4))
		k := len(tab.Low)
		if !Same(tab, copied(tab)) || Same(tab, none) || Same(none, tab) {
			t.Fatal(tab)
		}
		i, j := p.below(k), p.below(k)
		for n, do := range []func(t *api.Table){
			func(t *api.Table) { t.Low[i] ^= 1 },
			func(t *api.Table) { t.Up[i] ^= 2 },
			func(t *api.Table) { t.Pair[i][j] ^= 1 },
			func(t *api.Table) { t.Low = t.Low[:k-1] },
			func(t *api.Table) { t.Up = append(t.Up, one) },
			func(t *api.Table) { t.Pair = t.Pair[:k-1] },
			func(t *api.Table) { t.Pair[i] = t.Pair[i][:k-1] },
			func(t *api.Table) { t.Pair[i] = append(t.Pair[i], 0) },
			func(t *api.Table) { t.Low, t.Up, t.Pair = t.Low[:k-1], t.Up[:k-1], t.Pair[:k-1] },
			func(t *api.Table) { t.Low = nil },
			func(t *api.Table) { t.Up = nil },
			func(t *api.Table) { t.Pair = nil },
		} {
			other := copied(tab)
			do(&other)
			if Same(tab, other) || Same(other, tab) {
				t.Fatalf("%d: %v and %v", n, tab, other)
			}
		}
	}
}

// What may not be is the same too, if all of it is.
func TestP53SameOfNoTables(t *testing.T) {
	ragged := api.Table{Low: []api.Mult{0, 9}, Pair: [][]api.Mult{nil, {7}}}
	other := api.Table{Low: []api.Mult{0, 9}, Up: []api.Mult{}, Pair: [][]api.Mult{{}, {7}}}
	if !Same(ragged, other) || !Same(other, ragged) || Same(ragged, api.Table{Low: []api.Mult{0, 9}}) {
		t.Error("ragged")
	}
	if !Same(plain(1000), plain(1000)) || Same(plain(1000), plain(999)) {
		t.Error("long")
	}
}

// extended is the inequalities, and that keep are asg.
func extended(l []api.Ineq, keep []int, asg []api.Mult) []api.Ineq {
	l = slices.Clip(l)
	for i, v := range keep {
		l = append(l, atLeast(asg[i], v), below(variable(v), asg[i]))
	}
	return l
}

// What is let be, of a few among more variables, is what has a solution with just that.
func TestP54Solutions(t *testing.T) {
	p := picks(8)
	for range 400 {
		n := 10 + p.below(30)
		l, keep := p.ineqs(n, p.below(2*n)), p.keep(n, 4)
		tab, e := Project(n, l, keep)
		whole, _, e2 := least.Solve(n, nil, l)
		if e != e2 {
			t.Fatal(text(l), e, e2)
		}
		if e != api.OK {
			continue
		}
		if !Lets(tab, picked(whole, keep)) {
			t.Fatalf("%s: of %v a solution is not let be", text(l), keep)
		}
		for _, asg := range assignments(len(keep)) {
			_, _, e := least.Solve(n, nil, extended(l, keep, asg))
			if Lets(tab, asg) != (e == api.OK) {
				t.Fatalf("%s: of %v is %v let be: %v", text(l), keep, asg, e != api.OK)
			}
		}
	}
}

func TestP54TheSameTable(t *testing.T) {
	p := picks(9)
	for i := range 1500 {
		n, count := 1+p.below(12), 30
		if i%50 == 0 {
			n, count = 400, 900
		}
		l, keep := p.ineqs(n, p.below(count)), p.keep(n, p.below(api.MaxKeep+1))
		tab, e := Project(n, l, keep)
		if e != api.OK {
			continue
		}
		var all []int
		for v := range keep {
			all = append(all, v)
		}
		said, e := Ineqs(tab)
		again, e2 := Project(len(keep), said, all)
		if May(tab) != api.OK || e != api.OK || e2 != api.OK || !sameTable(tab, again) || !Same(tab, again) {
			t.Fatalf("%s: of %v %v, and then %v", text(l), keep, tab, again)
		}
	}
}
