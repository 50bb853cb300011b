package lex

import (
	"strconv"
	"strings"
	"unicode/utf8"

	"usufruct/api"
)

// Write is the text of the tokens l, with one blank between two (P10.2).
func Write(l []api.Token) (string, api.Errno) {
	for _, t := range l {
		if !isToken(t) {
			return "", api.ErrArg
		}
	}
	var b strings.Builder
	for i, t := range l {
		if b.Len()+len(t.Text) > api.MaxText { // so that no more is written of a long text than may be
			return "", api.ErrLong
		}
		if i > 0 {
			b.WriteByte(' ')
		}
		b.WriteString(written(t))
	}
	if b.Len() > api.MaxText {
		return "", api.ErrLong
	}
	return b.String(), api.OK
}

// isToken says whether t is a token. What is no string is one if it is what its own writing is read as;
// a string may be of more code points than can be read again.
func isToken(t api.Token) bool {
	if t.Kind == api.TkStr {
		return t.N == 0 && utf8.ValidString(t.Text)
	}
	l, d := Tokens(written(t))
	if d.E != api.OK || len(l) != 1 {
		return false
	}
	t.At = l[0].At
	return l[0] == t
}

// written is how t is written, if it is a token.
func written(t api.Token) string {
	switch t.Kind {
	case api.TkInt:
		return strconv.FormatInt(t.N, 10)
	case api.TkStr:
		return `"` + strings.NewReplacer("\n", `\n`, "\t", `\t`, `"`, `\"`, `\`, `\\`).Replace(t.Text) + `"`
	}
	return t.Text
}
