// Package mult is layer 1: how often something is used, and how often it may be. See shared/doc/01-mult.md.
package mult

import "usufruct/api"

// times is a set of numbers of times. No use and no multiplicity parts twice from more often, so one bit stands for all from twice on.
type times uint8

const (
	nought times = 1 << iota
	once
	more

	all = nought | once | more
)

// texts has the text of a multiplicity at 1 less than its number.
var texts = [3]string{"1", "?", "*"}

// Join is the least use that lets be all that one of l lets be (P1.1).
func Join(l ...api.Use) api.Use {
	var t times
	for _, u := range l {
		t |= used(u)
	}
	return leastUse(t)
}

// Sum is the least use that lets be each sum of numbers, one of each of l (P1.1).
func Sum(l ...api.Use) api.Use {
	t := nought
	for _, u := range l {
		t = add(t, used(u))
	}
	return leastUse(t)
}

// Scale is the least use of what stands within something that is done as often as m lets be, and uses it u each time (P1.2).
func Scale(m api.Mult, u api.Use) api.Use {
	around, within := letBe(m), used(u)
	var t times
	if around&nought != 0 {
		t |= nought
	}
	if around&once != 0 {
		t |= within
	}
	if around&more != 0 {
		// Done thrice and oftener it comes to no other set than done twice.
		t |= add(within, within)
	}
	return leastUse(t)
}

// Fits says whether m lets be all that u lets be (P1.3).
func Fits(u api.Use, m api.Mult) bool {
	return used(u)&^letBe(m) == 0
}

// Least is the least multiplicity that u fits (P1.3).
func Least(u api.Use) api.Mult {
	for m := api.One; m < api.Many; m++ {
		if Fits(u, m) {
			return m
		}
	}
	return api.Many
}

// Text is m as it is written (P1.4).
func Text(m api.Mult) string {
	return texts[known(m)-api.One]
}

// Parse is the multiplicity that is written as s (P1.4).
func Parse(s string) (api.Mult, api.Errno) {
	for i, t := range texts {
		if s == t {
			return api.One + api.Mult(i), api.OK
		}
	}
	return 0, api.ErrArg
}

// known is one of the three multiplicities, as each other number is as one of them.
func known(m api.Mult) api.Mult {
	return min(max(m, api.One), api.Many)
}

// letBe is what a multiplicity lets be.
func letBe(m api.Mult) times {
	switch known(m) {
	case api.One:
		return once
	case api.Affine:
		return nought | once
	}
	return all
}

// used is what a use lets be; those above Any are as Any.
func used(u api.Use) times {
	switch u {
	case api.Never:
		return nought
	case api.Once:
		return once
	case api.AtMost:
		return nought | once
	}
	return all
}

// leastUse is the first use that lets all of t be; the empty set is let be by Never.
func leastUse(t times) api.Use {
	for u := api.Never; u < api.Any; u++ {
		if t&^used(u) == 0 {
			return u
		}
	}
	return api.Any
}

// add is all sums of a number of a and a number of b.
func add(a, b times) times {
	var t times
	if a&nought != 0 {
		t |= b
	}
	if b&nought != 0 {
		t |= a
	}
	if a&^nought != 0 && b&^nought != 0 {
		t |= more
	}
	return t
}
