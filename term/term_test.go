package term

import (
	"math"
	"slices"
	"strconv"
	"testing"

	"usufruct/api"
	"usufruct/mult"
)

// The tests hold the package against the words of the document over all terms of the variables below kinds, and all assignments to these.
const kinds = 3

var (
	never  = api.Term{Never: true}
	one    = api.Term{C: api.One}
	affine = api.Term{C: api.Affine}
	many   = api.Term{C: api.Many}
)

func of(c api.Mult, vars ...int) api.Term {
	return api.Term{C: c, Vars: vars}
}

func constant(c api.Mult) api.Mu { return api.Mu{C: c} }

func variable(v int) api.Mu { return api.Mu{V: v} }

// subsets is each rising list of variables below kinds.
func subsets() [][]int {
	var all [][]int
	for bits := range 1 << kinds {
		var l []int
		for v := range kinds {
			if bits>>v&1 == 1 {
				l = append(l, v)
			}
		}
		all = append(all, l)
	}
	return all
}

func terms() []api.Term {
	all := []api.Term{never, many}
	for _, vars := range subsets() {
		all = append(all, of(api.One, vars...), of(api.Affine, vars...))
	}
	return all
}

func mus() []api.Mu {
	all := []api.Mu{constant(api.One), constant(api.Affine), constant(api.Many)}
	for v := range kinds {
		all = append(all, variable(v))
	}
	return all
}

func assignments() [][]api.Mult {
	all := [][]api.Mult{nil}
	for range kinds {
		var next [][]api.Mult
		for _, l := range all {
			for c := api.One; c <= api.Many; c++ {
				next = append(next, append(slices.Clone(l), c))
			}
		}
		all = next
	}
	return all
}

// lists is each list of up to n of l.
func lists(l []api.Term, n int) [][]api.Term {
	all := [][]api.Term{nil}
	from := 0
	for range n {
		to := len(all)
		for _, some := range all[from:to] {
			for _, t := range l {
				all = append(all, append(slices.Clone(some), t))
			}
		}
		from = to
	}
	return all
}

// wrongTerms is what is no term.
func wrongTerms() []api.Term {
	l := []api.Term{
		{}, {Vars: []int{1}}, {C: 4}, {C: 255}, {C: 4, Vars: []int{1}},
		{Never: true, C: api.One}, {Never: true, C: api.Affine}, {Never: true, C: api.Many}, {Never: true, C: 9}, {Never: true, Vars: []int{0}},
		of(api.Many, 0), of(api.Many, 1, 2),
	}
	for _, vars := range [][]int{{-1}, {api.MaxVars}, {math.MaxInt}, {math.MinInt}, {1, 1}, {0, 0}, {2, 1}, {1, 3, 2}, {0, 1, 1}, {3, 5, 5, 7}, {-1, 0}, {0, api.MaxVars}, {api.MaxVars - 1, api.MaxVars - 1}, {api.MaxVars - 1, 0}} {
		l = append(l, of(api.One, vars...), of(api.Affine, vars...))
	}
	return l
}

// wrongMus is what is no Mu.
func wrongMus() []api.Mu {
	return []api.Mu{{C: 4}, {C: 255}, {V: 1, C: api.One}, {V: 3, C: api.Affine}, {V: 1, C: api.Many}, {V: -1, C: api.One}, {V: 1, C: 4}, {V: -1}, {V: api.MaxVars}, {V: math.MaxInt}, {V: math.MinInt}}
}

func text(l []api.Term) string {
	s := ""
	for _, t := range l {
		s += Text(t) + " "
	}
	return s
}

func same(t *testing.T, what string, got api.Term, e api.Errno, want api.Term) {
	t.Helper()
	if e != api.OK || got.Never != want.Never || got.C != want.C || !slices.Equal(got.Vars, want.Vars) {
		t.Errorf("%s: %v, error %d, not %v", what, got, e, want)
	}
}

func refused(t *testing.T, what string, got api.Term, e, want api.Errno) {
	t.Helper()
	if e != want || got.Never || got.C != 0 || len(got.Vars) != 0 {
		t.Errorf("%s: %v, error %d, not error %d alone", what, got, e, want)
	}
}

func TestP21May(t *testing.T) {
	right := append(terms(), of(api.One, 0), of(api.One, api.MaxVars-1), of(api.Affine, 0, api.MaxVars-1), of(api.Affine, 7, 8, 100), api.Term{Never: true, Vars: []int{}}, api.Term{C: api.Many, Vars: []int{}}, api.Term{C: api.One, Vars: []int{}})
	for _, x := range right {
		if e := May(x); e != api.OK {
			t.Errorf("%v: %d", x, e)
		}
	}
	for _, x := range wrongTerms() {
		if e := May(x); e != api.ErrArg {
			t.Errorf("%v: %d", x, e)
		}
	}
	for c := range 256 {
		want := api.ErrArg
		if c >= 1 && c <= 3 {
			want = api.OK
		}
		if e := May(of(api.Mult(c))); e != want {
			t.Errorf("C %d: %d", c, e)
		}
	}
}

func TestP21Is(t *testing.T) {
	for _, m := range append(mus(), variable(0), variable(api.MaxVars-1)) {
		if e := Is(m); e != api.OK {
			t.Errorf("%v: %d", m, e)
		}
	}
	for _, m := range wrongMus() {
		if e := Is(m); e != api.ErrArg {
			t.Errorf("%v: %d", m, e)
		}
	}
}

func TestP21Of(t *testing.T) {
	want := []api.Term{never, one, affine, many}
	for u := range 256 {
		same(t, "Of "+strconv.Itoa(u), Of(api.Use(u)), api.OK, want[min(u, 3)])
	}
	for u := api.Never; u <= api.Any; u++ {
		if got, e := At(Of(u), nil); got != u || e != api.OK {
			t.Errorf("At Of %d: %d, %d", u, got, e)
		}
	}
}

func TestP22Examples(t *testing.T) {
	got, e := Join(of(api.One, 3), of(api.Affine, 5))
	same(t, "Join", got, e, of(api.Affine, 3, 5))
	got, e = Join(never, of(api.One, 3))
	same(t, "Join with Never", got, e, of(api.Affine, 3))
	got, e = Sum(of(api.One, 3), of(api.One))
	same(t, "Sum", got, e, many)
	got, e = Scale(variable(5), of(api.One, 3))
	same(t, "Scale", got, e, of(api.One, 3, 5))
}

func TestP22OfNone(t *testing.T) {
	for _, l := range [][]api.Term{nil, {}, {never}, {never, never, never}} {
		got, e := Join(l...)
		same(t, "Join", got, e, never)
		got, e = Sum(l...)
		same(t, "Sum", got, e, never)
	}
}

func TestP22Join(t *testing.T) {
	for _, l := range lists(terms(), 3) {
		want, used := api.Term{}, 0
		in := map[int]bool{}
		for _, x := range l {
			if !x.Never {
				used++
				want.C = max(want.C, x.C)
			}
			for _, v := range x.Vars {
				in[v] = true
			}
		}
		if want.Never = used == 0; used > 0 && used < len(l) {
			want.C = max(want.C, api.Affine)
		}
		for v := range kinds {
			if in[v] && want.C != api.Many {
				want.Vars = append(want.Vars, v)
			}
		}
		got, e := Join(l...)
		same(t, "Join "+text(l), got, e, want)
	}
}

func TestP22Sum(t *testing.T) {
	for _, l := range lists(terms(), 3) {
		want, used := never, 0
		for _, x := range l {
			if !x.Never {
				want = x
				used++
			}
		}
		if used > 1 {
			want = many
		}
		got, e := Sum(l...)
		same(t, "Sum "+text(l), got, e, want)
	}
}

func TestP22Scale(t *testing.T) {
	for _, m := range mus() {
		for _, x := range terms() {
			want := api.Term{Never: x.Never, C: x.C}
			if !x.Never {
				want.C = max(x.C, m.C)
			}
			for v := range kinds {
				if want.C != api.Many && !x.Never && (m.C == 0 && m.V == v || slices.Contains(x.Vars, v)) {
					want.Vars = append(want.Vars, v)
				}
			}
			got, e := Scale(m, x)
			same(t, "Scale "+strconv.Itoa(int(m.C))+" "+strconv.Itoa(m.V)+" "+Text(x), got, e, want)
		}
	}
}

func TestP22TheOuterVariables(t *testing.T) {
	last := api.MaxVars - 1
	got, e := Join(of(api.One, last), of(api.One, 0, 7), of(api.One, 0, last))
	same(t, "Join", got, e, of(api.One, 0, 7, last))
	got, e = Sum(never, of(api.Affine, 0, last), never)
	same(t, "Sum", got, e, of(api.Affine, 0, last))
	got, e = Scale(variable(last), of(api.One, 0))
	same(t, "Scale by the last", got, e, of(api.One, 0, last))
	got, e = Scale(variable(0), of(api.Affine, 4, last))
	same(t, "Scale by the first", got, e, of(api.Affine, 0, 4, last))
	got, e = Scale(variable(4), of(api.Affine, 4, last))
	same(t, "Scale by one that is there", got, e, of(api.Affine, 4, last))
}

func TestP22Refused(t *testing.T) {
	for _, x := range wrongTerms() {
		for _, l := range [][]api.Term{{x}, {x, one}, {one, x}, {never, x}, {x, never}, {many, many, x}, {x, x}, {never, never, x, never}} {
			got, e := Join(l...)
			refused(t, "Join", got, e, api.ErrArg)
			got, e = Sum(l...)
			refused(t, "Sum", got, e, api.ErrArg)
		}
		for _, m := range append(mus(), wrongMus()...) {
			got, e := Scale(m, x)
			refused(t, "Scale", got, e, api.ErrArg)
		}
	}
	for _, m := range wrongMus() {
		for _, x := range terms() {
			got, e := Scale(m, x)
			refused(t, "Scale", got, e, api.ErrArg)
		}
	}
}

func TestP22KeepsItsLists(t *testing.T) {
	a, b, full := []int{5, 9}, []int{1, 5, 12}, make([]int, 2, 8)
	full[0], full[1] = 5, 9
	l := []api.Term{never, {C: api.One, Vars: a}, never, {C: api.Affine, Vars: b}, {C: api.One, Vars: full}}
	before := slices.Clone(l)
	join, _ := Join(l...)
	sum, _ := Sum(l[:3]...)
	alone, _ := Join(l[1])
	by, _ := Scale(variable(1), l[4])
	within, _ := Scale(constant(api.One), l[1])
	least := Least(l[1])
	for _, x := range []api.Term{join, sum, alone, by, within, least} {
		for i := range x.Vars {
			x.Vars[i] = -7
		}
	}
	if !slices.Equal(a, []int{5, 9}) || !slices.Equal(b, []int{1, 5, 12}) || !slices.Equal(full[:8], []int{5, 9, 0, 0, 0, 0, 0, 0}) {
		t.Error("variables were changed, or are shared", a, b, full[:8])
	}
	for i := range l {
		same(t, "the list", l[i], api.OK, before[i])
	}
}

func TestP23Least(t *testing.T) {
	same(t, "of Never", Least(never), api.OK, affine)
	for _, x := range terms()[1:] {
		same(t, Text(x), Least(x), api.OK, x)
	}
	for _, x := range terms() {
		for _, asg := range assignments() {
			u, _ := At(x, asg)
			least, e := At(Least(x), asg)
			if want := mult.Scale(mult.Least(u), api.Once); e != api.OK || least != want {
				t.Errorf("%s at %v: %d, not %d", Text(x), asg, least, want)
			}
		}
	}
}

func TestP23At(t *testing.T) {
	for _, x := range terms() {
		for _, asg := range assignments() {
			want := api.Never
			if !x.Never {
				c := x.C
				for _, v := range x.Vars {
					c = max(c, asg[v])
				}
				want = []api.Use{api.Never, api.Once, api.AtMost, api.Any}[c]
			}
			if got, e := At(x, asg); got != want || e != api.OK {
				t.Errorf("%s at %v: %d, %d, not %d", Text(x), asg, got, e, want)
			}
		}
	}
	long := make([]api.Mult, api.MaxVars)
	long[api.MaxVars-1] = api.Affine
	if got, e := At(of(api.One, api.MaxVars-1), long); got != api.AtMost || e != api.OK {
		t.Error("the last variable", got, e)
	}
	if got, e := At(of(api.One, api.MaxVars-1), long[:api.MaxVars-1]); got != 0 || e != api.ErrRange {
		t.Error("no place for the last variable", got, e)
	}
}

func TestP23AtNeedsItsVariablesAlone(t *testing.T) {
	for _, asg := range [][]api.Mult{nil, {}, {0}, {0, 4}} {
		for u, x := range []api.Term{never, one, affine, many} {
			if got, e := At(x, asg); int(got) != u || e != api.OK {
				t.Errorf("%s at %v: %d, %d", Text(x), asg, got, e)
			}
		}
	}
	if got, e := At(of(api.One, 1, 3), []api.Mult{0, api.One, 200, api.Affine, 4}); got != api.AtMost || e != api.OK {
		t.Error("beside other numbers", got, e)
	}
}

func TestP23AtOutOfRange(t *testing.T) {
	for _, asg := range [][]api.Mult{nil, {}, {api.One}, {api.One, api.One, api.One}, {api.One, 0, api.One, api.One}, {api.One, api.One, api.One, 0}, {api.One, 4, api.One, api.One}, {api.One, api.Many, api.One, 4}, {api.One, 255, api.One, 1}} {
		for _, c := range []api.Mult{api.One, api.Affine} {
			if got, e := At(of(c, 1, 3), asg); got != 0 || e != api.ErrRange {
				t.Errorf("at %v: %d, %d", asg, got, e)
			}
		}
	}
}

func TestP23AtRefused(t *testing.T) {
	for _, x := range wrongTerms() {
		for _, asg := range [][]api.Mult{nil, {0}, {api.One, api.One, api.One, api.One, api.One, api.One, api.One, api.One}} {
			if got, e := At(x, asg); got != 0 || e != api.ErrArg {
				t.Errorf("%v at %v: %d, %d", x, asg, got, e)
			}
		}
	}
}

func TestP24Same(t *testing.T) {
	all := append(terms(), of(api.One, 4), of(api.One, 0, 4), of(api.Affine, 4))
	all = append(all, api.Term{}, api.Term{Never: true, C: api.One}, api.Term{Never: true, Vars: []int{0}}, of(api.One, 1, 0), of(api.One, 0, 0), of(api.Many, 0))
	for i, a := range all {
		for k, b := range all {
			b.Vars = slices.Clone(b.Vars)
			if Same(a, b) != (i == k) {
				t.Errorf("%v, %v", a, b)
			}
		}
	}
	for _, c := range []api.Mult{0, api.One, api.Many} {
		a, b := api.Term{C: c}, api.Term{C: c, Vars: []int{}}
		if !Same(a, b) || !Same(b, a) {
			t.Error("no Vars, and an empty list")
		}
	}
}

func TestP24Text(t *testing.T) {
	for _, x := range []struct {
		t    api.Term
		want string
	}{
		{never, "0"}, {one, "1"}, {affine, "?"}, {many, "*"},
		{of(api.One, 0), "m0"}, {of(api.Affine, 0), "?|m0"},
		{of(api.Affine, 3, 5), "?|m3|m5"}, {of(api.Affine, 3), "?|m3"}, {of(api.One, 3, 5), "m3|m5"},
		{of(api.One, 0, 10, api.MaxVars-1), "m0|m10|m1048575"},
	} {
		if got := Text(x.t); got != x.want {
			t.Errorf("%v: %s, not %s", x.t, got, x.want)
		}
	}
}

func TestP25JoinSumAt(t *testing.T) {
	for _, l := range lists(terms(), 2) {
		holdAt(t, l)
	}
	three := lists([]api.Term{never, one, of(api.One, 0), of(api.Affine, 1), of(api.One, 0, 2), many}, 4)
	for _, l := range three {
		holdAt(t, l)
	}
}

// holdAt holds what is joined and summed of l against what the uses come to, at all assignments.
func holdAt(t *testing.T, l []api.Term) {
	t.Helper()
	join, e := Join(l...)
	sum, e2 := Sum(l...)
	if e != api.OK || e2 != api.OK || May(join) != api.OK || May(sum) != api.OK {
		t.Error(text(l), e, e2)
	}
	for _, asg := range assignments() {
		var each []api.Use
		for _, x := range l {
			u, _ := At(x, asg)
			each = append(each, u)
		}
		if u, e := At(join, asg); u != mult.Join(each...) || e != api.OK {
			t.Errorf("Join %sat %v: %d, %d", text(l), asg, u, e)
		}
		if u, e := At(sum, asg); u != mult.Sum(each...) || e != api.OK {
			t.Errorf("Sum %sat %v: %d, %d", text(l), asg, u, e)
		}
	}
}

func TestP25ScaleAt(t *testing.T) {
	for _, m := range mus() {
		for _, x := range terms() {
			scaled, e := Scale(m, x)
			if e != api.OK || May(scaled) != api.OK {
				t.Error(m, Text(x), e)
			}
			for _, asg := range assignments() {
				around := m.C
				if around == 0 {
					around = asg[m.V]
				}
				within, _ := At(x, asg)
				if u, e := At(scaled, asg); u != mult.Scale(around, within) || e != api.OK {
					t.Errorf("Scale %v %s at %v: %d, %d", m, Text(x), asg, u, e)
				}
			}
		}
	}
}

func TestP25NotAlike(t *testing.T) {
	all := terms()
	for i, a := range all {
		for _, b := range all[i+1:] {
			alike := true
			for _, asg := range assignments() {
				x, _ := At(a, asg)
				y, _ := At(b, asg)
				alike = alike && x == y
			}
			if alike || Same(a, b) {
				t.Errorf("%s and %s", Text(a), Text(b))
			}
		}
	}
}
