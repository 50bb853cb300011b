package utf

import (
	"slices"

	"usufruct/api"
)

// The model works all out by the chapter's words, each place anew, without the library's code for code points.

// isPoint says whether n is a code point.
func isPoint(n int) bool {
	return 0 <= n && n <= 1114111 && (n < 55296 || n > 57343)
}

// width is how many bytes the code point n has.
func width(n int) int {
	k := 1
	for _, limit := range []int{128, 2048, 65536} {
		if n >= limit {
			k++
		}
	}
	return k
}

// bytesOf is the bytes of the code point n.
func bytesOf(n int) string {
	switch {
	case n < 128:
		return string([]byte{byte(n)})
	case n < 2048:
		return string([]byte{byte(192 + n/64), byte(128 + n%64)})
	case n < 65536:
		return string([]byte{byte(224 + n/64/64), byte(128 + n/64%64), byte(128 + n%64)})
	}
	return string([]byte{byte(240 + n/64/64/64), byte(128 + n/64/64%64), byte(128 + n/64%64), byte(128 + n%64)})
}

// textOf is the bytes of all of l.
func textOf(l []int) string {
	s := ""
	for _, n := range l {
		s += bytesOf(n)
	}
	return s
}

// first is the code point whose bytes s begins with.
func first(s string) (int, bool) {
	lead := []int{0, 192, 224, 240}
	for k := 1; k <= 4 && k <= len(s); k++ {
		n := int(s[0]) - lead[k-1]
		for _, b := range []byte(s[1:k]) {
			n = n*64 + int(b) - 128
		}
		if isPoint(n) && bytesOf(n) == s[:k] {
			return n, true
		}
	}
	return 0, false
}

// placeOf is the place that stands behind the code points l.
func placeOf(l []int) api.Pos {
	p := api.Pos{Line: 1, Col: 1}
	for _, n := range l {
		p.At += width(n)
		p.Col++
		if n == 10 {
			p.Line++
			p.Col = 1
		}
	}
	return p
}

// model is what Points and End are to answer of s.
func model(s string) ([]api.Point, api.Pos, api.Diag) {
	if len(s) > 4000 {
		return nil, api.Pos{}, api.Diag{E: api.ErrLong}
	}
	var ahead []int
	var l []api.Point
	for at := 0; at < len(s); {
		n, ok := first(s[at:])
		p := placeOf(ahead)
		if !ok {
			return nil, api.Pos{}, api.Diag{E: api.ErrUtf, At: p}
		}
		l = append(l, api.Point{R: rune(n), At: p})
		ahead = append(ahead, n)
		at += width(n)
	}
	return l, placeOf(ahead), api.Diag{}
}

// runesOf is l, as Put takes it.
func runesOf(l []int) []rune {
	var runes []rune
	for _, n := range l {
		runes = append(runes, rune(n))
	}
	return runes
}

// codes is the code points of l, without their places.
func codes(l []api.Point) []rune {
	var runes []rune
	for _, p := range l {
		runes = append(runes, p.R)
	}
	return runes
}

// asModel says whether Points and End answer of s what the model does.
func asModel(s string) bool {
	l, d := Points(s)
	p, d2 := End(s)
	wantList, wantPos, want := model(s)
	return slices.Equal(l, wantList) && d == want && p == wantPos && d2 == want
}

// dice is a row of numbers, the same each time.
type dice struct{ n uint64 }

func (d *dice) below(k int) int {
	d.n = d.n*6364136223846793005 + 1442695040888963407
	return int(d.n >> 33 % uint64(k))
}

// edges is the code points at which something ends or begins, and some of those within.
func edges() []int {
	return []int{0, 1, 9, 10, 13, 65, 97, 126, 127, 128, 129, 133, 228, 2046, 2047, 2048, 8232, 8364, 55295, 57344, 65279, 65532, 65533, 65534, 65535, 65536, 119070, 1114110, 1114111}
}

// edgeBytes is the bytes that begin, go on or end something, the ones beside them, and 10.
func edgeBytes() []byte {
	return []byte{0, 10, 97, 127, 128, 129, 143, 144, 159, 160, 189, 191, 192, 193, 194, 223, 224, 225, 236, 237, 238, 239, 240, 241, 243, 244, 245, 247, 248, 255}
}

// someTexts is n texts of up to most code points of all lengths and many lines.
func someTexts(n, most int) [][]int {
	d := &dice{9}
	var all [][]int
	for range n {
		var l []int
		for range d.below(most + 1) {
			switch c := d.below(1114112); d.below(4) {
			case 0:
				l = append(l, 10)
			case 1:
				l = append(l, c%300)
			case 2:
				l = append(l, edges()[c%len(edges())])
			default:
				if isPoint(c) {
					l = append(l, c)
				}
			}
		}
		all = append(all, l)
	}
	return all
}
