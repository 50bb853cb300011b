package mult

import (
	"slices"
	"strconv"
	"testing"

	"usufruct/api"
)

// The tests hold the package against the words of the document: uses and multiplicities as sets of plain numbers of times, from 0 to most.
const most = 5

var uses = []api.Use{api.Never, api.Once, api.AtMost, api.Any}

var mults = []api.Mult{api.One, api.Affine, api.Many}

func useLets(u api.Use, n int) bool {
	switch u {
	case api.Never:
		return n == 0
	case api.Once:
		return n == 1
	case api.AtMost:
		return n <= 1
	}
	return true
}

func multLets(m api.Mult, n int) bool {
	switch m {
	case 0, api.One:
		return n == 1
	case api.Affine:
		return n <= 1
	}
	return true
}

func numbers(u api.Use) []int {
	var l []int
	for n := range most + 1 {
		if useLets(u, n) {
			l = append(l, n)
		}
	}
	return l
}

// sums is each sum of n numbers that u lets be.
func sums(u api.Use, n int) []int {
	l := []int{0}
	for range n {
		l = plus(l, numbers(u))
	}
	return l
}

func plus(a, b []int) []int {
	var l []int
	for _, x := range a {
		for _, y := range b {
			l = append(l, x+y)
		}
	}
	slices.Sort(l)
	return slices.Compact(l)
}

func leastOf(l []int) api.Use {
	for _, u := range uses {
		if !slices.ContainsFunc(l, func(n int) bool { return !useLets(u, n) }) {
			return u
		}
	}
	return 99
}

// lists is all lists of uses of up to four.
func lists() [][]api.Use {
	all := [][]api.Use{nil}
	from := 0
	for range 4 {
		to := len(all)
		for _, l := range all[from:to] {
			for _, u := range uses {
				all = append(all, append(slices.Clone(l), u))
			}
		}
		from = to
	}
	return all
}

func text(l []api.Use) string {
	s := ""
	for _, u := range l {
		s += strconv.Itoa(int(u)) + " "
	}
	return s
}

func TestP11Examples(t *testing.T) {
	if Join(api.Never, api.Once) != api.AtMost || Join(api.Once, api.Once) != api.Once || Join() != api.Never {
		t.Error("Join")
	}
	if Sum(api.Never, api.Once) != api.Once || Sum(api.Once, api.Once) != api.Any || Sum() != api.Never {
		t.Error("Sum")
	}
}

func TestP11Join(t *testing.T) {
	for _, l := range lists() {
		var all []int
		for _, u := range l {
			all = append(all, numbers(u)...)
		}
		if got, want := Join(l...), leastOf(all); got != want {
			t.Errorf("Join %s: %d, not %d", text(l), got, want)
		}
	}
}

func TestP11Sum(t *testing.T) {
	for _, l := range lists() {
		all := []int{0}
		for _, u := range l {
			all = plus(all, numbers(u))
		}
		if got, want := Sum(l...), leastOf(all); got != want {
			t.Errorf("Sum %s: %d, not %d", text(l), got, want)
		}
	}
}

func TestP11OfNone(t *testing.T) {
	if Join() != api.Never || Sum() != api.Never || Join([]api.Use{}...) != api.Never || Sum([]api.Use{}...) != api.Never {
		t.Error("of none")
	}
}

func TestP11AboveAny(t *testing.T) {
	for n := int(api.Any); n <= 255; n++ {
		u := api.Use(n)
		if Join(u) != api.Any || Sum(u) != api.Any {
			t.Error("alone", n)
		}
		for _, v := range uses {
			if Join(u, v) != api.Any || Join(v, u) != api.Any || Sum(u, v) != api.Any || Sum(v, u) != api.Any {
				t.Error(n, v)
			}
		}
	}
}

func TestP11KeepsItsList(t *testing.T) {
	l := []api.Use{api.Any, 7, api.Never, api.Once}
	Join(l...)
	Sum(l...)
	if !slices.Equal(l, []api.Use{api.Any, 7, api.Never, api.Once}) {
		t.Error("the list was changed")
	}
}

func TestP12Scale(t *testing.T) {
	if Scale(api.Affine, api.Once) != api.AtMost || Scale(api.Many, api.AtMost) != api.Any || Scale(api.Many, api.Never) != api.Never {
		t.Error("examples")
	}
	for m := range 256 {
		for u := range 256 {
			var all []int
			for n := range most + 1 {
				if multLets(api.Mult(m), n) {
					all = append(all, sums(api.Use(u), n)...)
				}
			}
			if got, want := Scale(api.Mult(m), api.Use(u)), leastOf(all); got != want {
				t.Fatalf("Scale %d %d: %d, not %d", m, u, got, want)
			}
		}
	}
}

func TestP13Fits(t *testing.T) {
	if Fits(api.Never, api.One) || !Fits(api.Never, api.Affine) || !Fits(api.AtMost, api.Affine) {
		t.Error("examples")
	}
	for u := range 256 {
		for m := range 256 {
			want := true
			for _, n := range numbers(api.Use(u)) {
				want = want && multLets(api.Mult(m), n)
			}
			if got := Fits(api.Use(u), api.Mult(m)); got != want {
				t.Errorf("Fits %d %d: %v", u, m, got)
			}
		}
	}
}

func TestP13Least(t *testing.T) {
	want := []api.Mult{api.Affine, api.One, api.Affine, api.Many}
	for u := range 256 {
		if got := Least(api.Use(u)); got != want[min(u, 3)] {
			t.Errorf("Least %d: %d", u, got)
		}
	}
}

func TestP14Text(t *testing.T) {
	want := []string{"1", "1", "?", "*"}
	for m := range 256 {
		if got := Text(api.Mult(m)); got != want[min(m, 3)] {
			t.Errorf("Text %d: %s", m, got)
		}
	}
}

func TestP14Parse(t *testing.T) {
	for _, m := range mults {
		if got, e := Parse(Text(m)); got != m || e != api.OK {
			t.Errorf("Parse %s: %d, %d", Text(m), got, e)
		}
	}
	for _, s := range []string{"", "2", "0", "3", "11", "1 ", " 1", "?*", "**", "1\n", "\x00", "m0", "One", "\xff", "١", "？"} {
		if got, e := Parse(s); got != 0 || e != api.ErrArg {
			t.Errorf("Parse %q: %d, %d", s, got, e)
		}
	}
	for b := range 256 {
		s := string([]byte{byte(b)})
		if _, e := Parse(s); (e == api.OK) != (s == "1" || s == "?" || s == "*") {
			t.Errorf("Parse %q: %d", s, e)
		}
	}
}

func TestP15NoOrder(t *testing.T) {
	for _, l := range lists() {
		back := slices.Clone(l)
		slices.Reverse(back)
		sorted := slices.Sorted(slices.Values(l))
		if Join(l...) != Join(back...) || Join(l...) != Join(sorted...) || Sum(l...) != Sum(back...) || Sum(l...) != Sum(sorted...) {
			t.Error(text(l))
		}
		for i := range len(l) + 1 {
			if Join(l...) != Join(Join(l[:i]...), Join(l[i:]...)) && i > 0 && i < len(l) {
				t.Error("Join in two", text(l), i)
			}
			if Sum(l...) != Sum(Sum(l[:i]...), Sum(l[i:]...)) {
				t.Error("Sum in two", text(l), i)
			}
		}
	}
}

// Of no uses Never is told, which is not what is joined of nothing: here at least one is.
func TestP15Parts(t *testing.T) {
	for _, l := range lists()[1:] {
		for _, u := range uses {
			var each []api.Use
			for _, v := range l {
				each = append(each, Sum(u, v))
			}
			if Sum(u, Join(l...)) != Join(each...) {
				t.Error("Sum over Join", u, text(l))
			}
		}
		for _, m := range mults {
			var each []api.Use
			fits := true
			for _, v := range l {
				each = append(each, Scale(m, v))
				fits = fits && Fits(v, m)
			}
			if Scale(m, Join(l...)) != Join(each...) {
				t.Error("Scale over Join", m, text(l))
			}
			if Scale(m, Sum(l...)) != Sum(each...) {
				t.Error("Scale over Sum", m, text(l))
			}
			if Fits(Join(l...), m) != fits {
				t.Error("what is joined fits", m, text(l))
			}
		}
	}
}

func TestP15ScaleTwice(t *testing.T) {
	for a := range 6 {
		for b := range 6 {
			for _, u := range append(slices.Clone(uses), 4, 255) {
				x, y := api.Mult(a), api.Mult(b)
				if Scale(x, Scale(y, u)) != Scale(max(x, y), u) {
					t.Error(a, b, u)
				}
			}
		}
	}
}
