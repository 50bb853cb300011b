package least

import (
	"math"
	"slices"
	"strings"
	"testing"

	"usufruct/api"
	"usufruct/ineq"
)

// The tests hold the package against the words of the document: over all inequalities of few variables, by all assignments of these; and over many of more variables.

const (
	one    = api.One
	affine = api.Affine
	many   = api.Many
)

func constant(c api.Mult) api.Mu { return api.Mu{C: c} }

func variable(v int) api.Mu { return api.Mu{V: v} }

// upTo is the inequality that l is not above the greater one of c and the variable r.
func upTo(l api.Mu, c api.Mult, r int) api.Ineq { return api.Ineq{L: l, C: c, R: r} }

// below is the inequality that l is not above c.
func below(l api.Mu, c api.Mult) api.Ineq { return api.Ineq{L: l, C: c, R: -1} }

// edge is the inequality that the variable v is not above the variable w.
func edge(v, w int) api.Ineq { return upTo(variable(v), one, w) }

// atLeast is the inequality that m is not above the variable v.
func atLeast(m api.Mult, v int) api.Ineq { return upTo(constant(m), one, v) }

// ineqs is all inequalities between n variables.
func ineqs(n int) []api.Ineq {
	lefts := []api.Mu{constant(one), constant(affine), constant(many)}
	for v := range n {
		lefts = append(lefts, variable(v))
	}
	var all []api.Ineq
	for _, l := range lefts {
		for c := one; c <= many; c++ {
			for r := -1; r < n; r++ {
				all = append(all, upTo(l, c, r))
			}
		}
	}
	return all
}

// assignments is all assignments of n multiplicities.
func assignments(n int) [][]api.Mult {
	all := [][]api.Mult{nil}
	for range n {
		var more [][]api.Mult
		for _, asg := range all {
			for m := one; m <= many; m++ {
				more = append(more, append(slices.Clip(asg), m))
			}
		}
		all = more
	}
	return all
}

func text(l []api.Ineq) string {
	var parts []string
	for _, x := range l {
		parts = append(parts, ineq.Text(x))
	}
	return strings.Join(parts, "; ")
}

// above says whether asg is nowhere below low, which may be none.
func above(asg, low []api.Mult) bool {
	for v, m := range low {
		if asg[v] < m {
			return false
		}
	}
	return true
}

// holds is the words of the document of one inequality.
func holds(x api.Ineq, asg []api.Mult) bool {
	left := x.L.C
	if left == 0 {
		left = asg[x.L.V]
	}
	return left <= x.C || x.R != -1 && left <= asg[x.R]
}

func allHold(l []api.Ineq, asg []api.Mult) bool {
	return !slices.ContainsFunc(l, func(x api.Ineq) bool { return !holds(x, asg) })
}

// solutions tells by all assignments what solves l above low.
func solutions(n int, low []api.Mult, l []api.Ineq) [][]api.Mult {
	return slices.DeleteFunc(assignments(n), func(asg []api.Mult) bool { return !above(asg, low) || !allHold(l, asg) })
}

// raised tells by plain rounds the least solution of l above low, if there is one.
func raised(n int, low []api.Mult, l []api.Ineq) ([]api.Mult, bool) {
	asg := slices.Repeat([]api.Mult{one}, n)
	copy(asg, low)
	for more := true; more; {
		more = false
		for _, x := range l {
			if x.R != -1 && !holds(x, asg) {
				asg[x.R]++
				more = true
			}
		}
	}
	return asg, allHold(l, asg)
}

func picked(l []api.Ineq, numbers []int) []api.Ineq {
	var some []api.Ineq
	for _, i := range numbers {
		some = append(some, l[i])
	}
	return some
}

// isCore is the words of the document of a core.
func isCore(n int, low []api.Mult, l []api.Ineq, core []int) bool {
	for i, x := range core {
		if x < 0 || x >= len(l) || i > 0 && x <= core[i-1] {
			return false
		}
	}
	if _, ok := raised(n, low, picked(l, core)); ok {
		return false
	}
	for i := range core {
		if _, ok := raised(n, low, picked(l, slices.Delete(slices.Clone(core), i, i+1))); !ok {
			return false
		}
	}
	return true
}

// check holds what Solve tells against want, the least solution if ok, and answers what it tells.
func check(t *testing.T, n int, low []api.Mult, l []api.Ineq, want []api.Mult, ok bool) []api.Mult {
	t.Helper()
	asg, core, e := Solve(n, low, l)
	switch {
	case ok && (e != api.OK || !slices.Equal(asg, want) || core != nil):
		t.Errorf("%d variables above %v, %s: %v, %v, %d, not %v", n, low, text(l), asg, core, e, want)
	case !ok && (e != api.ErrClash || asg != nil || !isCore(n, low, l, core)):
		t.Errorf("%d variables above %v, %s: %v, %v, %d, not a clash with a core", n, low, text(l), asg, core, e)
	}
	return asg
}

// checkRaised holds what Solve tells against what plain rounds tell.
func checkRaised(t *testing.T, n int, low []api.Mult, l []api.Ineq) []api.Mult {
	t.Helper()
	want, ok := raised(n, low, l)
	return check(t, n, low, l, want, ok)
}

// picks is a row of numbers that jumps about, the same each time.
type picks uint64

// below is the next number, from 0 to n - 1.
func (p *picks) below(n int) int {
	*p = *p*6364136223846793005 + 1442695040888963407
	return int(uint64(*p) >> 33 % uint64(n))
}

// mult is the next multiplicity, mostly a small one.
func (p *picks) mult() api.Mult {
	return []api.Mult{one, one, one, affine, affine, many}[p.below(6)]
}

func (p *picks) low(n int) []api.Mult {
	if p.below(3) == 0 {
		return nil
	}
	var low []api.Mult
	for range n {
		low = append(low, p.mult())
	}
	return low
}

// ineqs is count inequalities between n variables, most of which hand something on.
func (p *picks) ineqs(n, count int) []api.Ineq {
	var l []api.Ineq
	for range count {
		x := upTo(variable(p.below(n)), p.mult(), p.below(n))
		switch p.below(8) {
		case 0:
			x.L = constant(p.mult())
		case 1:
			x.R = -1
		}
		l = append(l, x)
	}
	return l
}

func TestP41Examples(t *testing.T) {
	for _, x := range []struct {
		n    int
		low  []api.Mult
		l    []api.Ineq
		want []api.Mult
		core []int
	}{
		{n: 3, l: []api.Ineq{atLeast(affine, 0), edge(0, 1), upTo(variable(0), affine, 2)}, want: []api.Mult{affine, affine, one}},
		{n: 2, l: []api.Ineq{atLeast(many, 0), upTo(variable(0), affine, 1)}, want: []api.Mult{many, many}},
		{n: 3, l: []api.Ineq{atLeast(affine, 0), edge(0, 1), atLeast(one, 2), below(variable(1), one)}, core: []int{0, 1, 3}},
		{n: 2, low: []api.Mult{affine, one}, l: []api.Ineq{edge(0, 1), below(variable(1), one)}, core: []int{0, 1}},
	} {
		want := api.OK
		if x.core != nil {
			want = api.ErrClash
		}
		asg, core, e := Solve(x.n, x.low, x.l)
		if !slices.Equal(asg, x.want) || !slices.Equal(core, x.core) || e != want {
			t.Errorf("%s: %v, %v, %d", text(x.l), asg, core, e)
		}
	}
}

// Each of these has just one core.
func TestP41Cores(t *testing.T) {
	for _, x := range []struct {
		name string
		low  []api.Mult
		l    []api.Ineq
		core []int
	}{
		{"a multiplicity alone", nil, []api.Ineq{edge(0, 1), below(constant(many), affine), edge(1, 0)}, []int{1}},
		{"a least one alone", []api.Mult{one, many, one}, []api.Ineq{below(variable(0), one), below(variable(1), affine), edge(0, 2)}, []int{1}},
		{"a way of Many with pieces that let Affine be", nil, []api.Ineq{below(variable(2), affine), upTo(variable(1), affine, 2), upTo(variable(0), affine, 1), upTo(constant(many), affine, 0)}, []int{0, 1, 2, 3}},
		{"a way of Many whose end is a way of Affine", []api.Mult{one, affine, one}, []api.Ineq{atLeast(many, 0), upTo(variable(0), affine, 1), below(variable(1), one)}, []int{2}},
		{"a way of Many that a way of Affine shortens", []api.Mult{one, affine, one}, []api.Ineq{atLeast(many, 0), edge(0, 1), edge(1, 2), below(variable(2), one)}, []int{2, 3}},
		{"a way of Many to what may not be Affine", nil, []api.Ineq{atLeast(many, 0), upTo(variable(0), affine, 1), edge(1, 2), below(variable(2), one)}, []int{0, 1, 2, 3}},
		{"a way with a ring", nil, []api.Ineq{edge(0, 1), edge(1, 0), edge(1, 1), edge(1, 2), edge(2, 0), atLeast(affine, 0), below(variable(2), one)}, []int{0, 3, 5, 6}},
		{"a way that is no way for Many", nil, []api.Ineq{upTo(constant(many), many, 0), upTo(variable(0), many, 1), below(variable(1), many), atLeast(affine, 2), below(variable(2), one)}, []int{3, 4}},
	} {
		asg, core, e := Solve(3, x.low, x.l)
		if asg != nil || !slices.Equal(core, x.core) || e != api.ErrClash {
			t.Errorf("%s: %s: %v, %v, %d, not %v", x.name, text(x.l), asg, core, e, x.core)
		}
	}
}

func TestP41OfNone(t *testing.T) {
	for _, l := range [][]api.Ineq{nil, {}, {below(constant(many), many)}} {
		for _, low := range [][]api.Mult{nil, {}} {
			check(t, 0, low, l, nil, true)
			check(t, 3, low, l, []api.Mult{one, one, one}, true)
		}
		check(t, 3, []api.Mult{many, one, affine}, l, []api.Mult{many, one, affine}, true)
	}
	if asg, core, e := Solve(0, nil, []api.Ineq{below(constant(one), one), below(constant(affine), one)}); len(asg) != 0 || !slices.Equal(core, []int{1}) || e != api.ErrClash {
		t.Error(asg, core, e)
	}
}

// All inequalities of up to two variables, each two of them, above all least ones: by all assignments.
func TestP41Two(t *testing.T) {
	for n := range 3 {
		all := ineqs(n)
		for _, low := range append(assignments(n), nil) {
			for _, x := range all {
				for _, y := range all {
					l := []api.Ineq{x, y}
					right := solutions(n, low, l)
					if len(right) == 0 {
						check(t, n, low, l, nil, false)
						continue
					}
					asg := check(t, n, low, l, right[0], true)
					if slices.ContainsFunc(right, func(other []api.Mult) bool { return !above(other, asg) }) {
						t.Errorf("%s above %v: %v is not the least one", text(l), low, asg)
					}
				}
			}
		}
	}
}

func TestP41Three(t *testing.T) {
	all := ineqs(2)
	for _, x := range all {
		for _, y := range all {
			for _, z := range all {
				checkRaised(t, 2, nil, []api.Ineq{x, y, z})
			}
		}
	}
}

func TestP41Many(t *testing.T) {
	p := picks(1)
	for range 60000 {
		n := 1 + p.below(9)
		checkRaised(t, n, p.low(n), p.ineqs(n, p.below(3*n)))
	}
}

// way is the inequalities that hand on what is above c from the variable 0 on, each to the next one, to all n.
func way(n int, c api.Mult) []api.Ineq {
	var l []api.Ineq
	for i := range n - 1 {
		l = append(l, upTo(variable(i), c, i+1))
	}
	return l
}

// A way through all variables that may be, with all inequalities that may be, in either order.
func TestP41LongWays(t *testing.T) {
	last := api.MaxVars - 1
	for _, m := range []api.Mult{affine, many} {
		l := append([]api.Ineq{atLeast(m, 0)}, way(api.MaxVars, m-1)...)
		for range 2 {
			asg, core, e := Solve(api.MaxVars, nil, l)
			if e != api.OK || core != nil || len(asg) != api.MaxVars || slices.ContainsFunc(asg, func(x api.Mult) bool { return x != m }) {
				t.Errorf("%d is not handed on: %d", m, e)
			}
			slices.Reverse(l)
		}
		// The same without the variable 1, which leaves room for an inequality that can't be.
		l[1], l[2] = upTo(variable(0), one, 2), below(variable(last), one)
		for range 2 {
			asg, core, e := Solve(api.MaxVars, nil, l)
			if e != api.ErrClash || asg != nil || len(core) != api.MaxIneqs || core[0] != 0 || core[api.MaxIneqs-1] != api.MaxIneqs-1 || !slices.IsSorted(core) {
				t.Errorf("no clash of %d over all variables: %d, a core of %d", m, e, len(core))
			}
			slices.Reverse(l)
		}
	}
}

// One variable is what all others hang on, and hangs on all of them.
func TestP41Stars(t *testing.T) {
	var l []api.Ineq
	for v := 1; v < api.MaxVars/2; v++ {
		l = append(l, edge(0, v), edge(v, 0))
	}
	low := slices.Repeat([]api.Mult{one}, api.MaxVars/2)
	low[77] = many
	if asg, core, e := Solve(len(low), low, l); e != api.OK || core != nil || len(asg) != len(low) || slices.Contains(asg, one) || slices.Contains(asg, affine) {
		t.Error("not all are Many", e, core)
	}
	l = append(l, below(variable(4000), affine))
	if asg, core, e := Solve(len(low), low, l); e != api.ErrClash || asg != nil || !slices.Equal(core, []int{153, 7998, len(l) - 1}) {
		t.Error("no core of three", e, core)
	}
}

func TestP41Long(t *testing.T) {
	wrong := api.Ineq{R: -7}
	tooMany := slices.Repeat([]api.Ineq{wrong}, api.MaxIneqs+1)
	right := slices.Repeat([]api.Ineq{below(constant(one), one)}, api.MaxIneqs+1)
	for _, x := range []struct {
		n   int
		low []api.Mult
		l   []api.Ineq
	}{
		{api.MaxVars + 1, nil, nil}, {math.MaxInt, nil, nil}, {api.MaxVars + 1, []api.Mult{9}, []api.Ineq{wrong}},
		{2, nil, right}, {0, nil, right}, {2, []api.Mult{one, 0}, right}, {-1, nil, right}, {math.MinInt, nil, tooMany}, {1, []api.Mult{one}, tooMany},
	} {
		if asg, core, e := Solve(x.n, x.low, x.l); asg != nil || core != nil || e != api.ErrLong {
			t.Errorf("%d variables, %d least ones, %d inequalities: %d", x.n, len(x.low), len(x.l), e)
		}
	}
	low := slices.Repeat([]api.Mult{affine}, api.MaxVars)
	if asg, core, e := Solve(api.MaxVars, low, right[:api.MaxIneqs]); e != api.OK || core != nil || !slices.Equal(asg, low) {
		t.Error("as many as may be", e)
	}
	if _, _, e := Solve(api.MaxVars, low, tooMany[:api.MaxIneqs]); e != api.ErrArg {
		t.Error("as many as may be, which are none", e)
	}
}

func TestP41Refused(t *testing.T) {
	clash := below(constant(many), one)
	for _, x := range []struct {
		name string
		n    int
		low  []api.Mult
		l    []api.Ineq
	}{
		{"less than none", -1, nil, nil},
		{"far less than none", math.MinInt, nil, []api.Ineq{clash}},
		{"too few least ones", 2, []api.Mult{one}, nil},
		{"too many least ones", 2, []api.Mult{one, one, one}, nil},
		{"least ones of no variables", 0, []api.Mult{one}, nil},
		{"a least one of 0", 2, []api.Mult{one, 0}, nil},
		{"a least one of 4", 2, []api.Mult{4, one}, nil},
		{"a least one of 255", 2, []api.Mult{one, 255}, []api.Ineq{clash}},
		{"no inequality: C 0", 2, nil, []api.Ineq{{R: -1}}},
		{"no inequality: C 4", 2, nil, []api.Ineq{upTo(variable(0), 4, 1)}},
		{"no inequality: L is 4", 2, nil, []api.Ineq{below(constant(4), many)}},
		{"no inequality: L is both", 2, nil, []api.Ineq{below(api.Mu{V: 1, C: one}, many)}},
		{"no inequality: L is -1", 2, nil, []api.Ineq{below(variable(-1), many)}},
		{"no inequality: L is far below", 2, nil, []api.Ineq{below(variable(math.MinInt), many)}},
		{"no inequality: R is -2", 2, nil, []api.Ineq{upTo(variable(0), many, -2)}},
		{"no inequality: R is far below", 2, nil, []api.Ineq{upTo(variable(0), many, math.MinInt)}},
		{"no inequality: R is far above", api.MaxVars, nil, []api.Ineq{upTo(variable(0), many, api.MaxVars)}},
		{"no inequality: L is far above", api.MaxVars, nil, []api.Ineq{upTo(variable(api.MaxVars), many, 0)}},
		{"L is too great", 2, nil, []api.Ineq{below(variable(2), many)}},
		{"R is too great", 2, nil, []api.Ineq{upTo(constant(one), many, 2)}},
		{"L of no variables", 0, nil, []api.Ineq{below(variable(0), many)}},
		{"R of no variables", 0, nil, []api.Ineq{upTo(constant(one), many, 0)}},
	} {
		// A clash ahead of what is wrong, or behind it, is not told.
		for _, l := range [][]api.Ineq{x.l, append([]api.Ineq{clash}, x.l...), append(slices.Clip(x.l), clash)} {
			if asg, core, e := Solve(x.n, x.low, l); asg != nil || core != nil || e != api.ErrArg {
				t.Errorf("%s: %v, %v, %d", x.name, asg, core, e)
			}
		}
	}
}

func TestP41TheLastVariable(t *testing.T) {
	asg, core, e := Solve(3, nil, []api.Ineq{atLeast(affine, 2), upTo(variable(2), affine, 2), edge(2, 2)})
	if e != api.OK || core != nil || !slices.Equal(asg, []api.Mult{one, one, affine}) {
		t.Error(asg, core, e)
	}
}

func TestP41KeepsItsLists(t *testing.T) {
	low := []api.Mult{affine, one, one}
	right := []api.Ineq{upTo(variable(1), affine, 2), edge(0, 1), atLeast(many, 1)}
	for _, l := range [][]api.Ineq{right, append(slices.Clip(right), below(variable(2), affine)), nil} {
		before := slices.Clone(l)
		asg, core, _ := Solve(3, low, l)
		again, coreAgain, _ := Solve(3, low, l)
		if !slices.Equal(asg, again) || !slices.Equal(core, coreAgain) {
			t.Error("asked twice", asg, again, core, coreAgain)
		}
		clear(asg)
		clear(core)
		if want, ok := raised(3, low, l); ok && !slices.Equal(again, want) || !ok && !isCore(3, low, l, coreAgain) {
			t.Error("two answers share a list", again, coreAgain)
		}
		if !slices.Equal(low, []api.Mult{affine, one, one}) || !slices.Equal(l, before) {
			t.Error("a list was changed", low, l)
		}
	}
}

func TestP42Again(t *testing.T) {
	p := picks(2)
	for range 20000 {
		n := 1 + p.below(8)
		low, l := p.low(n), p.ineqs(n, p.below(2*n))
		asg, _, e := Solve(n, low, l)
		if e != api.OK {
			continue
		}
		if i, e := ineq.Holds(l, asg); i != -1 || e != api.OK || !above(asg, low) {
			t.Errorf("%s above %v: %v is no solution", text(l), low, asg)
		}
		check(t, n, asg, l, asg, true)
	}
}

// What solves more inequalities, or is above greater least ones, solves these, and so none of it is below.
func TestP42More(t *testing.T) {
	p := picks(3)
	for range 20000 {
		n := 1 + p.below(8)
		low, l := p.low(n), p.ineqs(n, p.below(2*n))
		less, _, e := Solve(n, low, l)
		greater := slices.Repeat([]api.Mult{one}, n)
		copy(greater, low)
		v := p.below(n)
		greater[v] = min(greater[v]+1, many)
		for i, x := range []struct {
			low []api.Mult
			l   []api.Ineq
		}{{low, append(p.ineqs(n, 1+p.below(3)), l...)}, {greater, l}, {greater, append(slices.Clip(l), p.ineqs(n, 1)...)}} {
			more, _, e2 := Solve(n, x.low, x.l)
			if e == api.ErrClash && e2 != api.ErrClash || e2 == api.OK && !above(more, less) {
				t.Errorf("%d: %s above %v: %v; %s above %v: %v", i, text(l), low, less, text(x.l), x.low, more)
			}
		}
	}
}
