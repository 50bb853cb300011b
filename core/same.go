package core

import "usufruct/api"

// same says whether a and b are the same but for places. Which are still to be held against each other is a list, as they may be deeper than calls go.
func same(a, b *api.Core) bool {
	rest := [][2]*api.Core{{a, b}}
	for len(rest) > 0 {
		a, b := rest[len(rest)-1][0], rest[len(rest)-1][1]
		rest = rest[:len(rest)-1]
		if a.Kind != b.Kind || a.N != b.N || a.I != b.I || a.S != b.S || len(a.L) != len(b.L) || len(a.Arms) != len(b.Arms) {
			return false
		}
		for i := range a.L {
			rest = append(rest, [2]*api.Core{&a.L[i], &b.L[i]})
		}
		for i := range a.Arms {
			if !samePat(&a.Arms[i].P, &b.Arms[i].P) {
				return false
			}
			rest = append(rest, [2]*api.Core{&a.Arms[i].E, &b.Arms[i].E})
		}
	}
	return true
}

func samePat(a, b *api.CPat) bool {
	rest := [][2]*api.CPat{{a, b}}
	for len(rest) > 0 {
		a, b := rest[len(rest)-1][0], rest[len(rest)-1][1]
		rest = rest[:len(rest)-1]
		if a.Kind != b.Kind || a.N != b.N || a.I != b.I || a.S != b.S || len(a.L) != len(b.L) {
			return false
		}
		for i := range a.L {
			rest = append(rest, [2]*api.CPat{&a.L[i], &b.L[i]})
		}
	}
	return true
}
