package parse

import (
	"slices"

	"usufruct/api"
)

// reader goes through the tokens of a text from the left; next is the number of the one that it is at.
// Its rows read what the grammar's rows tell.
type reader struct {
	tokens []api.Token
	next   int
}

// more says whether there is still a token.
func (r *reader) more() bool {
	return r.next < len(r.tokens)
}

// peek is the next token; at the end one of no kind.
func (r *reader) peek() api.Token {
	if !r.more() {
		return api.Token{}
	}
	return r.tokens[r.next]
}

// take is the next token, of the kind k, and goes past it.
func (r *reader) take(k uint8) read[api.Token] {
	if !r.is(k) {
		return read[api.Token]{}
	}
	t := r.peek()
	r.next++
	return right(t)
}

// is says whether a token of the kind k stands next.
func (r *reader) is(k uint8) bool {
	return r.peek().Kind == k
}

// at says whether one of these signs stands next.
func (r *reader) at(signs ...string) bool {
	return slices.Contains(signs, sign(r.peek()))
}

// skip goes past the sign s, if that stands next.
func (r *reader) skip(s string) bool {
	if !r.at(s) {
		return false
	}
	r.next++
	return true
}

// names reads as many names as stand there.
func (r *reader) names() read[[]api.Token] {
	return several(
		func() bool { return r.is(api.TkName) },
		func() read[api.Token] { return r.take(api.TkName) },
	)
}

// sign is the sign that t is, empty if it is none: a string may have the text of one.
func sign(t api.Token) string {
	if t.Kind != api.TkSign {
		return ""
	}
	return t.Text
}
