package lex

import (
	"slices"

	"usufruct/api"
	"usufruct/utf"
)

// reader goes through the code points of a text from the left; next is the number of the one that it is at.
type reader struct {
	points []api.Point
	next   int
}

// more says whether there is still a code point.
func (r *reader) more() bool {
	return r.next < len(r.points)
}

// at says whether the code points of s, which are one byte each, stand next.
func (r *reader) at(s string) bool {
	if len(r.points)-r.next < len(s) {
		return false
	}
	for i, c := range s {
		if r.points[r.next+i].R != c {
			return false
		}
	}
	return true
}

// kind tells the next code point's kind; at the end that of what is in no token.
func (r *reader) kind() kind {
	if !r.more() {
		return blank
	}
	return kindOf(r.points[r.next].R)
}

// skip goes past blanks and remarks.
func (r *reader) skip() {
	for r.more() {
		switch {
		case r.kind() == blank:
			r.next++
		case r.at("--"):
			for r.more() && !r.at("\n") {
				r.next++
			}
		default:
			return
		}
	}
}

// taker is what takes the token that begins with the next code point, if one does.
func (r *reader) taker() func() (api.Token, api.Diag) {
	switch r.kind() {
	case digit:
		return r.number
	case small:
		return r.word
	case great:
		return r.con
	case quote:
		return r.quoted
	}
	return r.sign
}

// wrong is what is answered instead of a token if there is the error e at the i-th code point.
func (r *reader) wrong(e api.Errno, i int) (api.Token, api.Diag) {
	return api.Token{}, api.Diag{E: e, At: r.points[i].At}
}

// number takes a number.
func (r *reader) number() (api.Token, api.Diag) {
	first := r.next
	nought := r.at("0")
	n := int64(0)
	for ; r.kind() == digit; r.next++ {
		if n <= api.MaxInt { // a number that is too great already grows no more, so that it never wraps round
			n = 10*n + int64(r.points[r.next].R-'0')
		}
	}
	if nought && r.next > first+1 {
		return r.wrong(api.ErrToken, first)
	}
	if n > api.MaxInt {
		return r.wrong(api.ErrBigN, first)
	}
	return api.Token{Kind: api.TkInt, N: n}, api.Diag{}
}

// word takes a word of the language, a primitive or a name.
func (r *reader) word() (api.Token, api.Diag) {
	t, d := r.name(api.TkName)
	if slices.Contains(Words(), t.Text) {
		t.Kind = api.TkSign
	}
	if slices.Contains(Prims(), t.Text) {
		t.Kind = api.TkPrim
	}
	return t, d
}

// con takes a constructor's name.
func (r *reader) con() (api.Token, api.Diag) {
	return r.name(api.TkCon)
}

// name takes a letter and what goes on with it, as a token of the kind k.
func (r *reader) name(k uint8) (api.Token, api.Diag) {
	first := r.next
	var l []rune
	for ; r.kind().inWord(); r.next++ {
		l = append(l, r.points[r.next].R)
	}
	if len(l) > api.MaxName {
		return r.wrong(api.ErrLong, first)
	}
	return withText(k, l)
}

// quoted takes a string.
func (r *reader) quoted() (api.Token, api.Diag) {
	first := r.next
	r.next++
	var l []rune
	for r.more() && !r.at("\n") {
		c := r.points[r.next].R
		if c == '"' {
			r.next++
			return withText(api.TkStr, l)
		}
		if c == '\\' {
			var ok bool
			if c, ok = r.meant(); !ok {
				return r.wrong(api.ErrToken, r.next)
			}
			r.next++
		}
		r.next++
		l = append(l, c)
	}
	return r.wrong(api.ErrOpen, first)
}

// meant is what the \ that is next and the code point behind it stand for together, if for anything.
func (r *reader) meant() (rune, bool) {
	switch {
	case r.at(`\n`):
		return '\n', true
	case r.at(`\t`):
		return '\t', true
	case r.at(`\"`):
		return '"', true
	case r.at(`\\`):
		return '\\', true
	}
	return 0, false
}

// sign takes the longest sign that stands next.
func (r *reader) sign() (api.Token, api.Diag) {
	longest := ""
	for _, s := range Signs() {
		if len(s) > len(longest) && r.at(s) {
			longest = s
		}
	}
	if longest == "" {
		return r.wrong(api.ErrToken, r.next)
	}
	r.next += len(longest)
	return api.Token{Kind: api.TkSign, Text: longest}, api.Diag{}
}

// withText is the token of the kind k whose text has the code points l.
func withText(k uint8, l []rune) (api.Token, api.Diag) {
	s, e := utf.Put(l)
	return api.Token{Kind: k, Text: s}, api.Diag{E: e}
}
