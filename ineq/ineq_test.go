package ineq

import (
	"math"
	"slices"
	"testing"

	"usufruct/api"
	"usufruct/mult"
	"usufruct/term"
)

// The tests hold the package against the words of the document over all that the variables below kinds make, and all assignments to these.
const kinds = 3

const last = api.MaxVars - 1

func constant(c api.Mult) api.Mu { return api.Mu{C: c} }

func variable(v int) api.Mu { return api.Mu{V: v} }

// upTo is the inequality that l is not above the greater one of c and the variable r.
func upTo(l api.Mu, c api.Mult, r int) api.Ineq { return api.Ineq{L: l, C: c, R: r} }

// below is the inequality that l is not above c.
func below(l api.Mu, c api.Mult) api.Ineq { return api.Ineq{L: l, C: c, R: -1} }

func never() api.Term { return api.Term{Never: true} }

func of(c api.Mult, vars ...int) api.Term { return api.Term{C: c, Vars: vars} }

func assignments() [][]api.Mult {
	var all [][]api.Mult
	for n := range 27 {
		all = append(all, []api.Mult{api.Mult(1 + n%3), api.Mult(1 + n/3%3), api.Mult(1 + n/9)})
	}
	return all
}

// parted is all of l, parted by whether may takes them.
func parted[T any](l []T, may func(T) api.Errno) (right, wrong []T) {
	for _, x := range l {
		if may(x) == api.OK {
			right = append(right, x)
		} else {
			wrong = append(wrong, x)
		}
	}
	return right, wrong
}

// mus is Mus of the variables below kinds, and what is none.
func mus() (right, wrong []api.Mu) {
	var all []api.Mu
	for _, c := range []api.Mult{0, api.One, api.Affine, api.Many, 4, 255} {
		for _, v := range []int{0, 1, 2, -1, api.MaxVars, math.MaxInt, math.MinInt} {
			all = append(all, api.Mu{V: v, C: c})
		}
	}
	return parted(all, term.Is)
}

// terms is all terms of the variables below kinds, and what is none.
func terms() (right, wrong []api.Term) {
	var all []api.Term
	for _, not := range []bool{false, true} {
		for _, c := range []api.Mult{0, api.One, api.Affine, api.Many, 4, 255} {
			for _, vars := range [][]int{nil, {0}, {1}, {2}, {0, 1}, {0, 2}, {1, 2}, {0, 1, 2}, {1, 0}, {2, 2}, {-1}, {0, api.MaxVars}, {math.MinInt}} {
				all = append(all, api.Term{Never: not, C: c, Vars: vars})
			}
		}
	}
	return parted(all, term.May)
}

// ineqs is all inequalities between the variables below kinds.
func ineqs() []api.Ineq {
	var all []api.Ineq
	right, _ := mus()
	for _, l := range right {
		for c := api.One; c <= api.Many; c++ {
			for r := -1; r < kinds; r++ {
				all = append(all, upTo(l, c, r))
			}
		}
	}
	return all
}

// wrongIneqs is what is no inequality.
func wrongIneqs() []api.Ineq {
	all := []api.Ineq{{}, {C: api.One, R: -2}, {C: api.Many, R: api.MaxVars}, {C: api.Affine, R: math.MaxInt}, {C: api.Affine, R: math.MinInt}}
	_, wrong := mus()
	for _, l := range wrong {
		all = append(all, below(l, api.Many), upTo(l, api.One, 0))
	}
	for _, c := range []api.Mult{0, 4, 255} {
		all = append(all, below(constant(api.One), c), upTo(variable(0), c, 0), upTo(variable(1), c, last))
	}
	return all
}

// bounded goes through all terms and bounds.
func bounded(do func(x api.Term, g api.Mult, m api.Mu)) {
	all, _ := terms()
	right, _ := mus()
	for _, x := range all {
		for g := api.One; g <= api.Many; g++ {
			for _, m := range right {
				do(x, g, m)
			}
		}
	}
}

// is is what m stands for under asg.
func is(m api.Mu, asg []api.Mult) api.Mult {
	if m.C == 0 {
		return asg[m.V]
	}
	return m.C
}

// holds is the words of the document of one inequality.
func holds(x api.Ineq, asg []api.Mult) bool {
	return is(x.L, asg) <= x.C || x.R != -1 && is(x.L, asg) <= asg[x.R]
}

func texts(l []api.Ineq) string {
	s := ""
	for i, x := range l {
		if i > 0 {
			s += "; "
		}
		s += Text(x)
	}
	return s
}

func TestP31May(t *testing.T) {
	right := append(ineqs(), below(variable(last), api.One), upTo(constant(api.Many), api.One, last), upTo(variable(last), api.Many, last))
	for _, x := range right {
		if e := May(x); e != api.OK {
			t.Errorf("%v: %d", x, e)
		}
	}
	for _, x := range wrongIneqs() {
		if e := May(x); e != api.ErrArg {
			t.Errorf("%v: %d", x, e)
		}
	}
}

func TestP31EachPart(t *testing.T) {
	for c := range 256 {
		want := api.ErrArg
		if c >= 1 && c <= 3 {
			want = api.OK
		}
		if e := May(upTo(variable(1), api.Mult(c), 2)); e != want {
			t.Errorf("C %d: %d", c, e)
		}
		if e := May(below(constant(api.Mult(c)), api.One)); c > 0 && e != want {
			t.Errorf("L %d: %d", c, e)
		}
	}
	for r, want := range map[int]api.Errno{math.MinInt: api.ErrArg, -2: api.ErrArg, -1: api.OK, 0: api.OK, last: api.OK, api.MaxVars: api.ErrArg, math.MaxInt: api.ErrArg} {
		if e := May(upTo(constant(api.Affine), api.One, r)); e != want {
			t.Errorf("R %d: %d", r, e)
		}
	}
}

func TestP32Example(t *testing.T) {
	asg := []api.Mult{api.Many, api.Many, api.Many, api.Many, api.Many, api.One}
	if i, e := Holds([]api.Ineq{upTo(variable(3), api.Affine, 5)}, asg); i != 0 || e != api.OK {
		t.Error(i, e)
	}
}

func TestP32One(t *testing.T) {
	for _, x := range ineqs() {
		for _, asg := range assignments() {
			want := 0
			if holds(x, asg) {
				want = -1
			}
			if i, e := Holds([]api.Ineq{x}, asg); i != want || e != api.OK {
				t.Errorf("%s at %v: %d, %d", Text(x), asg, i, e)
			}
		}
	}
}

func TestP32TheFirst(t *testing.T) {
	all := ineqs()
	for i, x := range all {
		// Steps that share no factor bring each inequality beside ever other ones.
		l := []api.Ineq{x, all[(i*5+7)%len(all)], all[(i*11+3)%len(all)], all[(i*17+31)%len(all)]}
		for _, asg := range assignments() {
			want := slices.IndexFunc(l, func(x api.Ineq) bool { return !holds(x, asg) })
			if got, e := Holds(l, asg); got != want || e != api.OK {
				t.Errorf("%s at %v: %d, %d, not %d", texts(l), asg, got, e, want)
			}
		}
	}
}

func TestP32OfNone(t *testing.T) {
	for _, l := range [][]api.Ineq{nil, {}} {
		for _, asg := range [][]api.Mult{nil, {}, {0, 4}} {
			if i, e := Holds(l, asg); i != -1 || e != api.OK {
				t.Error(i, e)
			}
		}
	}
}

func TestP32NeedsItsVariablesAlone(t *testing.T) {
	plain := []api.Ineq{below(constant(api.One), api.One), below(constant(api.Many), api.Affine)}
	for _, asg := range [][]api.Mult{nil, {0}, {4, 255}} {
		if i, e := Holds(plain, asg); i != 1 || e != api.OK {
			t.Error("no variables", asg, i, e)
		}
	}
	if i, e := Holds([]api.Ineq{upTo(variable(1), api.One, 3)}, []api.Mult{0, api.Affine, 200, api.Many, 4}); i != -1 || e != api.OK {
		t.Error("beside other numbers", i, e)
	}
	long := make([]api.Mult, api.MaxVars)
	long[last] = api.Affine
	l := []api.Ineq{upTo(constant(api.Affine), api.One, last), below(variable(last), api.One)}
	if i, e := Holds(l, long); i != 1 || e != api.OK {
		t.Error("the last variable", i, e)
	}
	if i, e := Holds(l, long[:last]); i != 0 || e != api.ErrRange {
		t.Error("no place for the last variable", i, e)
	}
}

func TestP32OutOfRange(t *testing.T) {
	for _, asg := range [][]api.Mult{nil, {}, {api.Many}, {api.Many, 0, api.Many}, {api.Many, 4, api.Many}, {api.Many, 255}} {
		for _, x := range []api.Ineq{
			below(variable(1), api.One), below(variable(1), api.Many), upTo(variable(1), api.One, 0), upTo(variable(1), api.One, 1),
			upTo(constant(api.Many), api.One, 1), upTo(constant(api.One), api.One, 1), upTo(constant(api.One), api.Many, 1), upTo(variable(0), api.Many, 1),
		} {
			for _, l := range [][]api.Ineq{{x}, {x, x}, {below(constant(api.One), api.One), x}, {below(constant(api.Many), api.One), x}, {x, below(constant(api.Many), api.One)}} {
				if i, e := Holds(l, asg); i != 0 || e != api.ErrRange {
					t.Errorf("%s at %v: %d, %d", texts(l), asg, i, e)
				}
			}
		}
	}
}

func TestP32Refused(t *testing.T) {
	out, fails := below(variable(7), api.One), below(constant(api.Many), api.One)
	for _, x := range wrongIneqs() {
		for _, l := range [][]api.Ineq{{x}, {x, out}, {out, x}, {fails, x}, {x, fails}, {fails, out, x, out}, {x, x}} {
			for _, asg := range [][]api.Mult{nil, {0}, {api.One, api.Affine, api.Many}} {
				if i, e := Holds(l, asg); i != 0 || e != api.ErrArg {
					t.Errorf("%v at %v: %d, %d", l, asg, i, e)
				}
			}
		}
	}
}

func TestP32KeepsItsLists(t *testing.T) {
	l := []api.Ineq{upTo(variable(0), api.One, 1), below(variable(1), api.Affine), below(constant(api.Many), api.One)}
	asg := []api.Mult{api.Affine, api.Affine, 9}
	before, at := slices.Clone(l), slices.Clone(asg)
	if i, e := Holds(l, asg); i != 2 || e != api.OK {
		t.Error(i, e)
	}
	if !slices.Equal(l, before) || !slices.Equal(asg, at) {
		t.Error("a list was changed", l, asg)
	}
}

func TestP33Examples(t *testing.T) {
	for _, x := range []struct {
		t    api.Term
		g    api.Mult
		m    api.Mu
		want string
	}{
		{of(api.Affine, 3), api.One, variable(5), "? <= m5; m3 <= m5"},
		{of(api.One, 3), api.Affine, variable(3), ""},
		{never(), api.One, constant(api.One), "? <= 1"},
		{of(api.One, 3), api.Affine, constant(api.One), "m3 <= ?"},
		{never(), api.Affine, variable(3), ""},
		{never(), api.One, constant(api.Affine), ""},
		{of(api.Many), api.Affine, variable(0), "* <= ?|m0"},
		{of(api.Many), api.Many, variable(0), ""},
		{of(api.Affine, 0, 3, last), api.One, constant(api.Many), ""},
		{of(api.Affine, 0, 3, last), api.One, variable(last), "? <= m1048575; m0 <= m1048575; m3 <= m1048575"},
		{of(api.Affine, 0, 3, last), api.Affine, variable(0), "m3 <= ?|m0; m1048575 <= ?|m0"},
		{of(api.Affine, 0, 3, last), api.One, constant(api.One), "? <= 1; m0 <= 1; m3 <= 1; m1048575 <= 1"},
	} {
		if l, e := Fits(x.t, x.g, x.m); texts(l) != x.want || e != api.OK {
			t.Errorf("Fits %s %d %v: %s, %d, not %s", term.Text(x.t), x.g, x.m, texts(l), e, x.want)
		}
	}
}

// wanted is the words of the document of what Fits tells.
func wanted(x api.Term, g api.Mult, m api.Mu) []api.Ineq {
	c, r := g, -1
	if m.C != 0 {
		c = max(g, m.C)
	} else {
		r = m.V
	}
	first := x.C
	if x.Never {
		first = api.Affine
	}
	var l []api.Ineq
	if first > c {
		l = append(l, upTo(constant(first), c, r))
	}
	for _, v := range x.Vars {
		if c != api.Many && v != r {
			l = append(l, upTo(variable(v), c, r))
		}
	}
	return l
}

func TestP33Fits(t *testing.T) {
	bounded(func(x api.Term, g api.Mult, m api.Mu) {
		l, e := Fits(x, g, m)
		if want := wanted(x, g, m); e != api.OK || !slices.Equal(l, want) {
			t.Errorf("Fits %s %d %v: %s, %d, not %s", term.Text(x), g, m, texts(l), e, texts(want))
		}
	})
}

func TestP33Refused(t *testing.T) {
	right, wrong := terms()
	muRight, muWrong := mus()
	refused := func(x api.Term, g api.Mult, m api.Mu) {
		if l, e := Fits(x, g, m); len(l) != 0 || e != api.ErrArg {
			t.Errorf("Fits %v %d %v: %v, %d", x, g, m, l, e)
		}
	}
	for g := range 256 {
		for _, x := range wrong {
			refused(x, api.Mult(g), variable(1))
			refused(x, api.Mult(g), constant(api.Many))
		}
		for _, m := range muWrong {
			refused(never(), api.Mult(g), m)
			refused(of(api.One, 0, 2), api.Mult(g), m)
		}
		if g >= 1 && g <= 3 {
			continue
		}
		for _, x := range right {
			for _, m := range muRight {
				refused(x, api.Mult(g), m)
			}
		}
	}
}

func TestP33KeepsItsTerm(t *testing.T) {
	full := []int{0, 2, 9, 9}
	x := api.Term{C: api.Affine, Vars: full[:2]}
	l, e := Fits(x, api.One, variable(1))
	again, e2 := Fits(x, api.One, variable(1))
	if e != api.OK || e2 != api.OK || !slices.Equal(full, []int{0, 2, 9, 9}) {
		t.Error("the term was changed", full, e, e2)
	}
	clear(l)
	if !slices.Equal(again, wanted(x, api.One, variable(1))) {
		t.Error("two answers share a list", again)
	}
}

func TestP34Text(t *testing.T) {
	for want, x := range map[string]api.Ineq{
		"1 <= 1":          below(constant(api.One), api.One),
		"? <= 1":          below(constant(api.Affine), api.One),
		"* <= ?":          below(constant(api.Many), api.Affine),
		"m3 <= 1":         below(variable(3), api.One),
		"m3 <= ?":         below(variable(3), api.Affine),
		"m3 <= *":         below(variable(3), api.Many),
		"? <= m5":         upTo(constant(api.Affine), api.One, 5),
		"1 <= m0":         upTo(constant(api.One), api.One, 0),
		"m3 <= m5":        upTo(variable(3), api.One, 5),
		"m3 <= ?|m5":      upTo(variable(3), api.Affine, 5),
		"m0 <= *|m0":      upTo(variable(0), api.Many, 0),
		"m1048575 <= m10": upTo(variable(last), api.One, 10),
		"m9 <= m1048575":  upTo(variable(9), api.One, last),
	} {
		if got := Text(x); got != want {
			t.Errorf("%v: %s, not %s", x, got, want)
		}
	}
}

func TestP34NoTwoAlike(t *testing.T) {
	had := map[string]api.Ineq{}
	for _, x := range ineqs() {
		s := Text(x)
		if y, ok := had[s]; ok {
			t.Errorf("%s of %v and of %v", s, x, y)
		}
		had[s] = x
	}
}

// What is no inequality has a text as well: a multiplicity's is that of layer 1 then.
func TestP34OfWhatMayNotBe(t *testing.T) {
	for want, x := range map[string]api.Ineq{
		"m0 <= m0":    {},
		"* <= *|m-2":  upTo(constant(9), 4, -2),
		"m-1 <= ?":    below(variable(-1), api.Affine),
		"? <= 1":      below(api.Mu{V: 7, C: api.Affine}, 0),
		"m0 <= *|m-9": upTo(variable(0), 255, -9),
	} {
		if got := Text(x); got != want {
			t.Errorf("%v: %s, not %s", x, got, want)
		}
	}
	for _, x := range wrongIneqs() {
		if Text(x) == "" {
			t.Error("no text", x)
		}
	}
}

func TestP35FitsJustIf(t *testing.T) {
	bounded(func(x api.Term, g api.Mult, m api.Mu) {
		l, _ := Fits(x, g, m)
		for _, asg := range assignments() {
			u, _ := term.At(x, asg)
			i, e := Holds(l, asg)
			if e != api.OK || (i == -1) != mult.Fits(u, max(g, is(m, asg))) {
				t.Errorf("%s, %d, %v at %v: %s: %d, %d", term.Text(x), g, m, asg, texts(l), i, e)
			}
		}
	})
}

// None of what Fits tells is one that holds under all assignments, and all may be.
func TestP35NoneTooMuch(t *testing.T) {
	bounded(func(x api.Term, g api.Mult, m api.Mu) {
		l, _ := Fits(x, g, m)
		for _, y := range l {
			fails := slices.ContainsFunc(assignments(), func(asg []api.Mult) bool { return !holds(y, asg) })
			if !fails || May(y) != api.OK {
				t.Errorf("%s, %d, %v: %s", term.Text(x), g, m, Text(y))
			}
		}
	})
}
