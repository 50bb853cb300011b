package lex

import (
	"regexp"
	"slices"
	"strconv"
	"strings"
	"unicode/utf8"

	"usufruct/api"
)

// The model works all out by the chapter's words, told as patterns, and each place anew from the text's beginning.

var (
	between  = regexp.MustCompile(`^(?:[ \t\n\r]|--[^\n]*(?:\n|$))*`)
	smalls   = regexp.MustCompile(`^[a-z][0-9a-zA-Z_']*`)
	greats   = regexp.MustCompile(`^[A-Z][0-9a-zA-Z_']*`)
	digits   = regexp.MustCompile(`^[0-9]+`)
	stringed = regexp.MustCompile(`^"(?:[^"\\\n]|\\[nt"\\])*`)
	signed   = regexp.MustCompile(`^(?:-[1?*]?>|==|\+\+|[\\=;{}()|<+\-*/%_?])`)
)

const (
	wordList = "let rec in case of data"
	primList = "open read write close array get set size fail len"
	signList = `\ -> -1> -?> -*> = == ; { } ( ) | < ++ + - * / % _ ?`
)

// in says whether s is one of the list's, which stand with a blank between two.
func in(list, s string) bool {
	return slices.Contains(strings.Split(list, " "), s)
}

// place is the place of the byte at of s.
func place(s string, at int) api.Pos {
	ahead := s[:at]
	last := ahead[strings.LastIndex(ahead, "\n")+1:]
	return api.Pos{At: at, Line: 1 + strings.Count(ahead, "\n"), Col: 1 + utf8.RuneCountInString(last)}
}

// one is the token that rest begins with, and how many bytes it has; or the error, and how many bytes stand ahead of its place.
func one(rest string) (api.Token, int, api.Errno) {
	if w := smalls.FindString(rest); w != "" {
		switch {
		case in(wordList, w):
			return api.Token{Kind: 5, Text: w}, len(w), 0
		case in(primList, w):
			return api.Token{Kind: 6, Text: w}, len(w), 0
		case len(w) > 24:
			return api.Token{}, 0, 3
		}
		return api.Token{Kind: 1, Text: w}, len(w), 0
	}
	if w := greats.FindString(rest); w != "" {
		if len(w) > 24 {
			return api.Token{}, 0, 3
		}
		return api.Token{Kind: 2, Text: w}, len(w), 0
	}
	if w := digits.FindString(rest); w != "" {
		if w[0] == '0' && len(w) > 1 {
			return api.Token{}, 0, 100
		}
		n, err := strconv.ParseInt(w, 10, 64)
		if err != nil || n > 1099511627776 {
			return api.Token{}, 0, 101
		}
		return api.Token{Kind: 3, N: n}, len(w), 0
	}
	if w := stringed.FindString(rest); w != "" {
		return oneString(w, rest[len(w):])
	}
	if w := signed.FindString(rest); w != "" {
		return api.Token{Kind: 5, Text: w}, len(w), 0
	}
	return api.Token{}, 0, 100
}

// oneString is as one is of the string that w is up to where it ends, or goes wrong; behind stands what is behind w.
func oneString(w, behind string) (api.Token, int, api.Errno) {
	switch {
	case strings.HasPrefix(behind, `"`):
		s := ""
		for _, piece := range strings.Split(w[1:], `\\`) {
			for _, x := range [][2]string{{`\n`, "\n"}, {`\t`, "\t"}, {`\"`, `"`}} {
				piece = strings.ReplaceAll(piece, x[0], x[1])
			}
			s += `\` + piece
		}
		return api.Token{Kind: 4, Text: s[1:]}, len(w) + 1, 0
	case strings.HasPrefix(behind, `\`):
		return api.Token{}, len(w), 100
	}
	return api.Token{}, 0, 102
}

// model is what Tokens is to answer of s, a text of MaxText bytes at most.
func model(s string) ([]api.Token, api.Diag) {
	var l []api.Token
	for at := len(between.FindString(s)); at < len(s); at += len(between.FindString(s[at:])) {
		t, n, e := one(s[at:])
		if e != 0 {
			return nil, api.Diag{E: e, At: place(s, at+n)}
		}
		t.At = place(s, at)
		l = append(l, t)
		at += n
	}
	return l, api.Diag{}
}

// asModel says whether Tokens answers of s what the model does.
func asModel(s string) bool {
	l, d := Tokens(s)
	want, wantDiag := model(s)
	return slices.Equal(l, want) && d == wantDiag
}

// writing is how a token is written.
func writing(t api.Token) string {
	switch t.Kind {
	case 3:
		return strconv.FormatInt(t.N, 10)
	case 4:
		s := ""
		for _, r := range t.Text {
			switch r {
			case 10:
				s += `\n`
			case 9:
				s += `\t`
			case '"':
				s += `\"`
			case '\\':
				s += `\\`
			default:
				s += string(r)
			}
		}
		return `"` + s + `"`
	}
	return t.Text
}

// bare is l without places.
func bare(l []api.Token) []api.Token {
	l = slices.Clone(l)
	for i := range l {
		l[i].At = api.Pos{}
	}
	return l
}

// dice is a row of numbers, the same each time.
type dice struct{ n uint64 }

func (d *dice) below(k int) int {
	d.n = d.n*6364136223846793005 + 1442695040888963407
	return int(d.n >> 33 % uint64(k))
}

// pick is one of l.
func (d *dice) pick(l []string) string {
	return l[d.below(len(l))]
}

// all is each token of a few code points, and some others.
func all() []api.Token {
	var l []api.Token
	for _, s := range strings.Split(wordList+" "+signList, " ") {
		l = append(l, api.Token{Kind: 5, Text: s})
	}
	for _, s := range strings.Split(primList, " ") {
		l = append(l, api.Token{Kind: 6, Text: s})
	}
	for _, s := range []string{"a", "z", "lets", "le", "l", "in'", "case_", "of0", "dataData", "opens", "lenn", "m0", "a''", "a_", "x1Y2_'", strings.Repeat("a", 24), "b" + strings.Repeat("'", 23)} {
		l = append(l, api.Token{Kind: 1, Text: s})
	}
	for _, s := range []string{"A", "Z", "Let", "Nil", "C_0'", "LET", strings.Repeat("Z", 24), "B" + strings.Repeat("_", 23)} {
		l = append(l, api.Token{Kind: 2, Text: s})
	}
	for _, n := range []int64{0, 1, 9, 10, 42, 100, 1000000007, 1099511627775, 1099511627776} {
		l = append(l, api.Token{Kind: 3, N: n})
	}
	for _, s := range []string{"", "a", " ", "\n", "\t", `"`, `\`, `\n`, `\\n`, "\\\n", `\"`, "--", "a--b", "\r", "\x00", "\x7f", "\u00e4\u20ac\U0001d11e", "\ufffd", "let x = 1", `""`, "'"} {
		l = append(l, api.Token{Kind: 4, Text: s})
	}
	return l
}
