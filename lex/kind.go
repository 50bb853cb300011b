package lex

// kind is what a code point may be part of, as far as it alone tells.
type kind uint8

const (
	other kind = iota // of a sign, or of a string alone
	blank
	digit
	small
	great
	joint // of a word, but no word begins with it
	quote
)

// kindOf tells r's kind.
func kindOf(r rune) kind {
	switch {
	case r == ' ' || r == '\t' || r == '\n' || r == '\r':
		return blank
	case '0' <= r && r <= '9':
		return digit
	case 'a' <= r && r <= 'z':
		return small
	case 'A' <= r && r <= 'Z':
		return great
	case r == '_' || r == '\'':
		return joint
	case r == '"':
		return quote
	}
	return other
}

// inWord says whether k's are a word's code points.
func (k kind) inWord() bool {
	return k == digit || k == small || k == great || k == joint
}
