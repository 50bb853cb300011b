package lex

import (
	"math"
	"slices"
	"strconv"
	"strings"
	"testing"

	"usufruct/api"
)

// token is one that stands in a text's first line, which has no code point of more than one byte.
func token(k uint8, text string, n int64, at int) api.Token {
	return api.Token{Kind: k, Text: text, N: n, At: api.Pos{At: at, Line: 1, Col: at + 1}}
}

// are says whether the tokens of s are l.
func are(s string, l ...api.Token) bool {
	got, d := Tokens(s)
	return d == api.Diag{} && slices.Equal(got, l)
}

// refused says whether Tokens tells of s the error e at that place, and nothing beside it.
func refused(s string, e api.Errno, at api.Pos) bool {
	l, d := Tokens(s)
	return len(l) == 0 && d == api.Diag{E: e, At: at}
}

// refusedAt is as refused is, of a place in a text's first line.
func refusedAt(s string, e api.Errno, at int) bool {
	return refused(s, e, api.Pos{At: at, Line: 1, Col: at + 1})
}

func TestP101Examples(t *testing.T) {
	for _, x := range []struct {
		s string
		l []api.Token
	}{
		{"let f' = 1a", []api.Token{token(api.TkSign, "let", 0, 0), token(api.TkName, "f'", 0, 4), token(api.TkSign, "=", 0, 7), token(api.TkInt, "", 1, 9), token(api.TkName, "a", 0, 10)}},
		{"a -1> B--c", []api.Token{token(api.TkName, "a", 0, 0), token(api.TkSign, "-1>", 0, 2), token(api.TkCon, "B", 0, 6)}},
		{`"a\n\""`, []api.Token{token(api.TkStr, "a\n\"", 0, 0)}},
	} {
		if !are(x.s, x.l...) {
			t.Errorf("%q", x.s)
		}
	}
	for _, x := range []struct {
		s  string
		e  api.Errno
		at int
	}{
		{"01", api.ErrToken, 0}, {"a !", api.ErrToken, 2}, {`"\a"`, api.ErrToken, 1},
		{`"a`, api.ErrOpen, 0}, {"1099511627777", api.ErrBigN, 0}, {strings.Repeat("a", 25), api.ErrLong, 0},
	} {
		if !refusedAt(x.s, x.e, x.at) {
			t.Errorf("%q", x.s)
		}
	}
}

func TestP101None(t *testing.T) {
	for _, s := range []string{"", " ", "\t", "\n", "\r", " \t\r\n \n", "--", "--\n", "-- a", "--a\n--b", "  --\n\n--\n ", "---", "--\"", "-- \u20ac\x00'!", "--\r01", strings.Repeat("-", 4000), strings.Repeat(" ", 4000)} {
		if !are(s) {
			t.Errorf("%q", s)
		}
	}
}

// Each code point alone, and behind a token of each kind.
func TestP101EachCodePoint(t *testing.T) {
	begins := "abcdefghijklmnopqrstuvwxyzABCDEFGHIJKLMNOPQRSTUVWXYZ0123456789\\-=;{}()|<+*/%_?"
	for n := range rune(0x11000) {
		s := string(n)
		if 0xd800 <= n && n < 0xe000 {
			continue
		}
		l, d := Tokens(s)
		switch {
		case strings.ContainsRune(" \t\n\r", n):
			if len(l) != 0 || d != (api.Diag{}) {
				t.Fatal("a blank", n, l, d)
			}
		case n == '"':
			if !refusedAt(s, api.ErrOpen, 0) {
				t.Fatal("a string", n, l, d)
			}
		case strings.ContainsRune(begins, n):
			if len(l) != 1 || d != (api.Diag{}) {
				t.Fatal("a token", n, l, d)
			}
		default:
			if !refusedAt(s, api.ErrToken, 0) {
				t.Fatal("no token", n, l, d)
			}
		}
		if n >= 0x500 && n%97 > 0 {
			continue
		}
		for _, ahead := range []string{"a", "let", "A", "1", `""`, "-", "_", "", "--", `"`, `"\`} {
			if !asModel(ahead+s) || !asModel(ahead+s+`"`) {
				t.Fatalf("%q", ahead+s)
			}
		}
	}
}

func TestP101Words(t *testing.T) {
	for _, x := range []struct {
		k    uint8
		list string
	}{
		{api.TkSign, wordList},
		{api.TkPrim, primList},
		{api.TkName, "a z a0 aA a_ a' a'' aZ9_'z le lets let' let_ let0 letT letrec rece ins inn i o off o_f dat datas opens ope closed writes arrays gets sets sizes fails lens le' lambda if then else fun where type match with true false and or not int str io file arr"},
		{api.TkCon, "A Z A0 Aa A_ A' A'' AA Z9_'z Let LET Rec In Case Of Data Open OPEN Read Len Nil Cons"},
	} {
		for _, s := range strings.Split(x.list, " ") {
			if !are(s, token(x.k, s, 0, 0)) {
				t.Errorf("%q", s)
			}
			if !are("("+s+")", token(api.TkSign, "(", 0, 0), token(x.k, s, 0, 1), token(api.TkSign, ")", 0, 1+len(s))) {
				t.Errorf("(%q)", s)
			}
			if !are(s+" "+s+"--"+s, token(x.k, s, 0, 0), token(x.k, s, 0, len(s)+1)) {
				t.Errorf("%q %q", s, s)
			}
		}
	}
}

// What isn't a word's code point ends a word, though it be a letter or a digit elsewhere.
func TestP101BehindWords(t *testing.T) {
	for _, s := range []string{"a", "let", "len", "Nil", "a'", "A_", strings.Repeat("a", 24), strings.Repeat("B", 24)} {
		first, _ := Tokens(s)
		for _, c := range []string{"\u00e4", "\u00c4", "\u0663", "\u2019", "\u02bc", "\u00aa", "\uff41", "\u0130", "\u017f", "\u212a", "\x00", "\v", "\f", "\u00a0", "\u0301", "!", ".", ":", "`", "@", "[", "]", "^", ",", "#", "$", "&", "~", ">"} {
			if !refusedAt(s+c, api.ErrToken, len(s)) || !refusedAt(s+c+s, api.ErrToken, len(s)) {
				t.Errorf("%q", s+c)
			}
		}
		for _, c := range strings.Split(signList, " ") {
			if c == "_" {
				continue
			}
			if !are(s+c, first[0], token(api.TkSign, c, 0, len(s))) {
				t.Errorf("%q", s+c)
			}
		}
		if !are(s+`"x"`, first[0], token(api.TkStr, "x", 0, len(s))) || !are(s+" ", first[0]) || !are(s+"\r", first[0]) || !are(s+"--", first[0]) {
			t.Errorf("%q", s)
		}
	}
}

func TestP101MaxName(t *testing.T) {
	for _, first := range []string{"a", "A", "z", "Z"} {
		for _, rest := range []string{"a", "Z", "0", "9", "_", "'"} {
			k := uint8(api.TkName)
			if first < "a" {
				k = api.TkCon
			}
			for n := range 23 + 1 {
				if s := first + strings.Repeat(rest, n); !are(s, token(k, s, 0, 0)) {
					t.Errorf("%q", s)
				}
			}
			for _, n := range []int{24, 25, 26, 47, 48, 255, 256, 279, 280, 3990} {
				s := first + strings.Repeat(rest, n)
				if !refusedAt(s, api.ErrLong, 0) || !refusedAt("a = "+s+" !", api.ErrLong, 4) || !refused("a\n "+s, api.ErrLong, api.Pos{At: 3, Line: 2, Col: 2}) {
					t.Errorf("%q", s)
				}
			}
		}
	}
	for _, s := range strings.Split(wordList+" "+primList, " ") {
		if s += strings.Repeat("_", 24-len(s)); !are(s, token(api.TkName, s, 0, 0)) || !refusedAt(s+"_", api.ErrLong, 0) {
			t.Errorf("%q", s)
		}
	}
}

func TestP101Numbers(t *testing.T) {
	for _, n := range []int64{0, 1, 2, 7, 9, 10, 11, 99, 100, 101, 1000, 4095, 65536, 2147483647, 2147483648, 4294967295, 4294967296, 999999999999, 1000000000000, 1099511627775, 1099511627776} {
		s := strconv.FormatInt(n, 10)
		if !are(s, token(api.TkInt, "", n, 0)) {
			t.Errorf("%q", s)
		}
		if !are("-"+s, token(api.TkSign, "-", 0, 0), token(api.TkInt, "", n, 1)) {
			t.Errorf("-%q", s)
		}
		for _, c := range []string{"a", "let", "len", "A"} {
			if l, d := Tokens(s + c); d != (api.Diag{}) || len(l) != 2 || l[0] != token(api.TkInt, "", n, 0) || l[1].Text != c {
				t.Errorf("%q", s+c)
			}
		}
		if !are(s+"_", token(api.TkInt, "", n, 0), token(api.TkSign, "_", 0, len(s))) || !refusedAt(s+"'", api.ErrToken, len(s)) || !refusedAt(s+".0", api.ErrToken, len(s)) {
			t.Errorf("behind %q", s)
		}
		if !refusedAt("0"+s, api.ErrToken, 0) || !refusedAt("00"+s, api.ErrToken, 0) || !refusedAt("a 0"+s, api.ErrToken, 2) {
			t.Errorf("0%q", s)
		}
	}
	for n := range int64(3000) {
		if !are(strconv.FormatInt(n, 10), token(api.TkInt, "", n, 0)) {
			t.Error(n)
		}
	}
}

func TestP101MaxInt(t *testing.T) {
	for _, s := range []string{
		"1099511627777", "1099511627778", "1099511627780", "1099511627786", "2199023255552", "9999999999999", "10995116277760", "9223372036854775807", "9223372036854775808",
		"18446744073709551615", "18446744073709551616", "18446744073709551617", "19446744073709551616", "92233720368547758080", "340282366920938463463374607431768211456", "340282366920938463463374607431768211457",
		strings.Repeat("1", 20), strings.Repeat("9", 4000-2), "1" + strings.Repeat("0", 3990), "4" + strings.Repeat("0", 64), "2" + strings.Repeat("0", 100), "17" + strings.Repeat("0", 65),
	} {
		if !refusedAt(s, api.ErrBigN, 0) || !refusedAt("a "[:min(2, 4000-len(s))]+s, api.ErrBigN, min(2, 4000-len(s))) || !refusedAt("-"+s, api.ErrBigN, 1) {
			t.Errorf("%q", s)
		}
		if s := "0" + s; !refusedAt(s, api.ErrToken, 0) {
			t.Errorf("%q", s)
		}
	}
}

// A number that is too great goes ahead of what stands behind it; a 0 behind which a digit stands goes ahead of how great it is.
func TestP101FirstMet(t *testing.T) {
	long, big := strings.Repeat("x", 25), "1099511627777"
	bad := []struct {
		s  string
		e  api.Errno
		at int
	}{
		{"!", api.ErrToken, 0}, {"01", api.ErrToken, 0}, {long, api.ErrLong, 0}, {strings.ToUpper(long), api.ErrLong, 0}, {big, api.ErrBigN, 0},
		{`"a`, api.ErrOpen, 0}, {"\"a\n\"", api.ErrOpen, 0}, {`"a\`, api.ErrToken, 2}, {`"a\b"`, api.ErrToken, 2}, {`"a\n\`, api.ErrToken, 4}, {"\"\\\n\"", api.ErrToken, 1}, {"0" + big, api.ErrToken, 0}, {`"!01\a`, api.ErrToken, 4},
	}
	for _, a := range bad {
		for _, b := range bad {
			if a.e != api.ErrOpen && !refusedAt(a.s+" "+b.s, a.e, a.at) {
				t.Errorf("%q %q", a.s, b.s)
			}
			if !refusedAt(a.s+"\n"+b.s, a.e, a.at) {
				t.Errorf("%q, a line, %q", a.s, b.s)
			}
			if !refusedAt("let x = "+a.s+"\n"+b.s, a.e, 8+a.at) {
				t.Errorf("ahead of %q, a line, %q", a.s, b.s)
			}
		}
		if !are("-- " + a.s[:strings.IndexByte(a.s+"\n", '\n')]) {
			t.Errorf("in a remark %q", a.s)
		}
		if !refused(a.s+"\xff", api.ErrUtf, place(a.s, len(a.s))) || !refused("\xff"+a.s, api.ErrUtf, api.Pos{At: 0, Line: 1, Col: 1}) {
			t.Errorf("what is no text goes ahead: %q", a.s)
		}
		if !refused(a.s+strings.Repeat(" ", 4000), api.ErrLong, api.Pos{}) {
			t.Errorf("what is too long goes ahead: %q", a.s)
		}
	}
}

// What is met in a string ahead of where it ought to end goes ahead of its having no end; what stands behind that does not.
func TestP101FirstMetInStrings(t *testing.T) {
	for _, x := range []struct {
		s  string
		e  api.Errno
		at int
	}{
		{"a \"b\n\\a", api.ErrOpen, 2}, {"a \"b\\a\n", api.ErrToken, 4}, {"\"\\a", api.ErrToken, 1}, {"\"\\", api.ErrToken, 1}, {"\"a\\\n", api.ErrToken, 2}, {"\"\\\\\\", api.ErrToken, 3},
		{"\"\\\\", api.ErrOpen, 0}, {"\"\\\"", api.ErrOpen, 0}, {"\"a\\\"b\\\\\\\"", api.ErrOpen, 0}, {"\"\"\"", api.ErrOpen, 2}, {"\"\" \"\n\"\"", api.ErrOpen, 3}, {"\"\\N\"", api.ErrToken, 1}, {"\"\\T\"", api.ErrToken, 1},
		{"\"\\r\"", api.ErrToken, 1}, {"\"\\'\"", api.ErrToken, 1}, {"\"\\0\"", api.ErrToken, 1}, {"\"\\ \"", api.ErrToken, 1}, {"\"\\\t\"", api.ErrToken, 1}, {"\"\\x41\"", api.ErrToken, 1}, {"\"\\u{41}\"", api.ErrToken, 1}, {"\"\\\u20ac\"", api.ErrToken, 1},
		{"\"\r\n\"", api.ErrOpen, 0}, {"\"--\n\"", api.ErrOpen, 0}, {"\"" + strings.Repeat("a", 3999), api.ErrOpen, 0}, {"a!\"", api.ErrToken, 1},
	} {
		if !refusedAt(x.s, x.e, x.at) {
			l, d := Tokens(x.s)
			t.Errorf("%q: %v %v", x.s, l, d)
		}
	}
}

func TestP101Strings(t *testing.T) {
	for _, x := range [][2]string{
		{``, ""}, {`a`, "a"}, {`\n`, "\n"}, {`\t`, "\t"}, {`\"`, `"`}, {`\\`, `\`}, {`\\n`, `\n`}, {`\\\n`, "\\\n"}, {`\\\\`, `\\`}, {`\"\"`, `""`}, {`\n\t\"\\\t\n`, "\n\t\"\\\t\n"},
		{"\t", "\t"}, {"\r", "\r"}, {"\x00\x01\x1f\x7f", "\x00\x01\x1f\x7f"}, {"--", "--"}, {"a -- b", "a -- b"}, {"'", "'"}, {" a  b ", " a  b "}, {"n", "n"}, {"/n", "/n"}, {"!#\u00e4\u20ac\U0001d11e\ufffd\u2028", "!#\u00e4\u20ac\U0001d11e\ufffd\u2028"},
		{"let x = 01 in {}", "let x = 01 in {}"}, {strings.Repeat("b", 3998), strings.Repeat("b", 3998)}, {strings.Repeat(`\n`, 1999), strings.Repeat("\n", 1999)},
	} {
		s := `"` + x[0] + `"`
		if !are(s, token(api.TkStr, x[1], 0, 0)) {
			t.Errorf("%q", s)
		}
		if len(s) > 3000 {
			continue
		}
		l, d := Tokens("a" + s + s + "1")
		if d != (api.Diag{}) || len(l) != 4 || l[1].Text != x[1] || l[2].Text != x[1] || l[3].N != 1 || l[3].At.At != 1+2*len(s) {
			t.Errorf("%q: %v %v", s, l, d)
		}
	}
}

func TestP101Signs(t *testing.T) {
	signs := strings.Split(signList, " ")
	for _, s := range signs {
		if !are(s, token(api.TkSign, s, 0, 0)) || !are("\n"+s+" ", api.Token{Kind: api.TkSign, Text: s, At: api.Pos{At: 1, Line: 2, Col: 1}}) {
			t.Errorf("%q", s)
		}
	}
	for _, a := range signs {
		for _, b := range append(signs, "1", ">", "1>", "?>", "*>") {
			for _, c := range append(signs, "1", ">", "a", " ", "") {
				if !asModel(a + b + c) {
					t.Fatalf("%q", a+b+c)
				}
			}
		}
	}
	for _, x := range []struct{ s, l string }{
		{"===", "== ="}, {"====", "== =="}, {"+++", "++ +"}, {"++++", "++ ++"}, {"-1>", "-1>"}, {"-?>", "-?>"}, {"-*>", "-*>"}, {"->", "->"}, {"-?->", "- ? ->"}, {"-*", "- *"}, {"-?", "- ?"}, {"=->", "= ->"}, {"-", "-"}, {"- -", "- -"},
		{"<-", "< -"}, {"(*", "( *"}, {"?*", "? *"}, {"-*-?>", "- * -?>"}, {"\\\\", "\\ \\"}, {"=-?", "= - ?"}, {"__", "_ _"}, {"+ +", "+ +"}, {"= =", "= ="}, {"- >", "-"}, {"+--", "+"}, {"++--+", "++"}, {"=--\n=", "= ="}, {"----\n-", "-"}, {"->--", "->"},
	} {
		l, d := Tokens(x.s)
		var texts []string
		for _, k := range l {
			texts = append(texts, k.Text)
		}
		if x.s == "- >" {
			if !refusedAt(x.s, api.ErrToken, 2) {
				t.Error(x.s)
			}
		} else if d != (api.Diag{}) || strings.Join(texts, " ") != x.l {
			t.Errorf("%q: %v %v", x.s, l, d)
		}
	}
	for _, s := range []string{">", "-2>", "-1 >", "-01>", "-10>", "-a>", "=>", "-->\n>", "-?1>", "-1?>", "!=", "<>", "-**>"} {
		if l, d := Tokens(s); d.E != api.ErrToken || len(l) != 0 || !asModel(s) {
			t.Errorf("%q: %v %v", s, l, d)
		}
	}
	if !are("-1", token(api.TkSign, "-", 0, 0), token(api.TkInt, "", 1, 1)) || !are("_a", token(api.TkSign, "_", 0, 0), token(api.TkName, "a", 0, 1)) || !are("_1", token(api.TkSign, "_", 0, 0), token(api.TkInt, "", 1, 1)) {
		t.Error("a shorter sign, and what stands behind")
	}
}

func TestP101Remarks(t *testing.T) {
	a, b := token(api.TkName, "a", 0, 0), api.Token{Kind: api.TkName, Text: "b"}
	for _, x := range []struct {
		s  string
		at api.Pos
	}{
		{"a--\nb", api.Pos{At: 4, Line: 2, Col: 1}}, {"a --x\n b", api.Pos{At: 7, Line: 2, Col: 2}}, {"a---1>\n\nb", api.Pos{At: 8, Line: 3, Col: 1}}, {"a--\"\nb", api.Pos{At: 5, Line: 2, Col: 1}},
		{"a--\r\rx\nb", api.Pos{At: 7, Line: 2, Col: 1}}, {"a-- b -- c\n--\n--b\n\tb", api.Pos{At: 19, Line: 4, Col: 2}}, {"a--\u20ac\x00!'01\\\nb", api.Pos{At: 13, Line: 2, Col: 1}}, {"a -- " + strings.Repeat("y", 3990) + "\nb", api.Pos{At: 3996, Line: 2, Col: 1}},
	} {
		b.At = x.at
		if !are(x.s, a, b) {
			t.Errorf("%q", x.s)
		}
	}
	if !are("a--b", a) || !are("a--b\n", a) || !are("a--b\r", a) || !are("a -", a, token(api.TkSign, "-", 0, 2)) {
		t.Error("at the end")
	}
}

func TestP101Places(t *testing.T) {
	s := "a\n\t\"\u20ac\U0001d11e\" B --\u00e4\r\n\n  12\"\\n\"\r-1>"
	want := []api.Token{
		{Kind: api.TkName, Text: "a", At: api.Pos{At: 0, Line: 1, Col: 1}}, {Kind: api.TkStr, Text: "\u20ac\U0001d11e", At: api.Pos{At: 3, Line: 2, Col: 2}},
		{Kind: api.TkCon, Text: "B", At: api.Pos{At: 13, Line: 2, Col: 7}}, {Kind: api.TkInt, N: 12, At: api.Pos{At: 24, Line: 4, Col: 3}},
		{Kind: api.TkStr, Text: "\n", At: api.Pos{At: 26, Line: 4, Col: 5}}, {Kind: api.TkSign, Text: "-1>", At: api.Pos{At: 31, Line: 4, Col: 10}},
	}
	if !are(s, want...) {
		l, d := Tokens(s)
		t.Error(l, d)
	}
	if !refused(s+"\n\"\u20ac\u20ac\\", api.ErrToken, api.Pos{At: 42, Line: 5, Col: 4}) || !refused(s+"\n\"\u20ac\u20ac\" \"\\n", api.ErrOpen, api.Pos{At: 44, Line: 5, Col: 6}) {
		t.Error("places of errors")
	}
}

func TestP101Utf(t *testing.T) {
	for _, s := range []string{"\xff", "\xc0\x80", "\xed\xa0\x80", "\xe2\x82", "\xf4\x90\x80\x80"} {
		for _, ahead := range []string{"", "a ", "\"\u20ac", "--", "!", "01\n ", "\"\n"} {
			if !refused(ahead+s, api.ErrUtf, place(ahead, len(ahead))) || !refused(ahead+s+"\"", api.ErrUtf, place(ahead, len(ahead))) {
				t.Errorf("%q %q", ahead, s)
			}
		}
	}
	for _, s := range []string{strings.Repeat("a ", 2000), strings.Repeat("\"\" ", 1333) + "a", strings.Repeat("(", 4000)} {
		if len(s) != 4000 || !asModel(s) {
			t.Errorf("%q: 4000 bytes", s[:2])
		}
		for _, more := range []string{" ", "!", "\xff", strings.Repeat(" ", 1<<20)} {
			if !refused(s+more, api.ErrLong, api.Pos{}) || !refused(more+s, api.ErrLong, api.Pos{}) {
				t.Errorf("%q: more than 4000 bytes", s[:2])
			}
		}
	}
}

// All texts of up to four code points of these, and many longer ones.
func TestP101Short(t *testing.T) {
	letters := []string{"a", "B", "0", "1", "_", "'", " ", "\n", "-", ">", "?", "*", "=", "+", "\"", "\\", "n", "!", "\u20ac"}
	var grow func(s string, n int)
	grow = func(s string, n int) {
		if !asModel(s) {
			t.Fatalf("%q", s)
		}
		if n == 0 {
			return
		}
		for _, c := range letters {
			grow(s+c, n-1)
		}
	}
	grow("", 4)
}

func TestP101Many(t *testing.T) {
	d := &dice{5}
	pieces := append(strings.Split(wordList+" "+primList+" "+signList, " "), " ", "\n", "\t", "\r", "--", "--x", "\"", "\"a\"", "\\n", "\\t", "\\\"", "\\\\", "\"\\", "0", "1", "12", "99", "a", "f'", "B", "_", "'", "\u00e4", "\U0001d11e", "!", ">",
		"1099511627776", "1099511627777", strings.Repeat("k", 24), strings.Repeat("K", 23), "\"--", "\" \"", "\x00")
	for range 60000 {
		var b strings.Builder
		for range d.below(12) {
			b.WriteString(d.pick(pieces))
			if d.below(2) == 0 {
				b.WriteString(" ")
			}
		}
		if !asModel(b.String()) {
			t.Fatalf("%q", b.String())
		}
	}
}

func TestP101NewMemory(t *testing.T) {
	a, _ := Tokens("a = \"b\"")
	b, _ := Tokens("a = \"b\"")
	a[0], a[1], a[2] = api.Token{}, api.Token{}, api.Token{}
	if !slices.Equal(b, []api.Token{token(api.TkName, "a", 0, 0), token(api.TkSign, "=", 0, 2), token(api.TkStr, "b", 0, 4)}) {
		t.Error("lists share memory")
	}
}

func TestP102Examples(t *testing.T) {
	if s, e := Write([]api.Token{{Kind: api.TkName, Text: "a"}, {Kind: api.TkStr, Text: "\n"}}); s != `a "\n"` || e != api.OK {
		t.Errorf("%q %d", s, e)
	}
	if s, e := Write([]api.Token{{Kind: api.TkName, Text: "A"}}); s != "" || e != api.ErrArg {
		t.Errorf("%q %d", s, e)
	}
	for _, l := range [][]api.Token{nil, {}} {
		if s, e := Write(l); s != "" || e != api.OK {
			t.Errorf("none: %q %d", s, e)
		}
	}
}

func TestP102EachToken(t *testing.T) {
	for _, a := range all() {
		if s, e := Write([]api.Token{a}); s != writing(a) || e != api.OK {
			t.Errorf("%v: %q %d", a, s, e)
		}
		for _, b := range all() {
			b.At = api.Pos{At: -1, Line: math.MaxInt, Col: math.MinInt}
			if s, e := Write([]api.Token{a, b}); s != writing(a)+" "+writing(b) || e != api.OK {
				t.Errorf("%v %v: %q %d", a, b, s, e)
			}
		}
	}
}

// notTokens is what is no token, of each kind.
func notTokens() []api.Token {
	var l []api.Token
	for _, s := range []string{"", "A", "1", "_", "'", "_a", "'a", "let", "in", "len", "open", "a b", " a", "a ", "a\n", "a--", "a--b", "a=", "\u00e4", "a\u00e4", "a\xff", "\"a\"", "=", "a.b", strings.Repeat("a", 25), strings.Repeat("a", 5000), "a\x00"} {
		l = append(l, api.Token{Kind: api.TkName, Text: s})
	}
	for _, s := range []string{"", "a", "1", "_", "'", "_A", "let", "len", "A B", " A", "A ", "A\n", "A--", "A=", "\u00c4", "A\u00e4", "A\xff", "=", strings.Repeat("A", 25), strings.Repeat("A", 5000)} {
		l = append(l, api.Token{Kind: api.TkCon, Text: s})
	}
	for _, n := range []int64{-1, -2, -1099511627776, 1099511627777, math.MaxInt64, math.MinInt64} {
		l = append(l, api.Token{Kind: api.TkInt, N: n})
	}
	l = append(l, api.Token{Kind: api.TkInt, N: 1, Text: "1"}, api.Token{Kind: api.TkInt, Text: "0"}, api.Token{Kind: api.TkInt, Text: " "}, api.Token{Kind: api.TkInt, N: 1, Text: "\xff"})
	for _, s := range []string{"\xff", "a\xc3", "\xed\xa0\x80", "\xc0\x80", "\xf4\x90\x80\x80", strings.Repeat("a", 9000) + "\xff", "\xff" + strings.Repeat("a", 9000), strings.Repeat("a", 4000) + "\xe2\x82"} {
		l = append(l, api.Token{Kind: api.TkStr, Text: s})
	}
	for _, s := range []string{"", "a", "A", "1", ">", "!", "--", "-->", "- >", "===", "+++", "-2>", " =", "= ", "=\n", "=--", "lets", "Let", "len", "let ", "let rec", "'", "\"", "\"\"", "\u2192", "=\xff", "()", "\\\\", strings.Repeat("=", 5000)} {
		l = append(l, api.Token{Kind: api.TkSign, Text: s})
	}
	for _, s := range []string{"", "a", "A", "let", "lens", "Len", " len", "len ", "len\n", "len--", "=", "open read", "\"open\"", "1", "+", "len\xff"} {
		l = append(l, api.Token{Kind: api.TkPrim, Text: s})
	}
	for _, k := range []uint8{0, 7, 8, 9, 10, 100, 254, 255} {
		l = append(l, api.Token{Kind: k}, api.Token{Kind: k, Text: "a"}, api.Token{Kind: k, Text: "="}, api.Token{Kind: k, N: 1}, api.Token{Kind: k, Text: "1", N: 1})
	}
	for _, a := range all() {
		if a.Kind != api.TkInt {
			for _, n := range []int64{1, -1, math.MinInt64} {
				b := a
				b.N = n
				l = append(l, b)
			}
		} else {
			a.Text = writing(a)
			l = append(l, a)
		}
	}
	return l
}

func TestP102NoToken(t *testing.T) {
	good := []api.Token{{Kind: api.TkName, Text: "a"}, {Kind: api.TkSign, Text: "="}, {Kind: api.TkStr, Text: "b"}}
	long := []api.Token{{Kind: api.TkStr, Text: strings.Repeat("b", 3999)}}
	for _, x := range notTokens() {
		for _, l := range [][]api.Token{{x}, append(slices.Clone(good), x), append([]api.Token{x}, good...), append(slices.Clone(long), x), append([]api.Token{x}, long...)} {
			if s, e := Write(l); s != "" || e != api.ErrArg {
				t.Errorf("%.60q of kind %d, %d: %.60q %d", x.Text, x.Kind, x.N, s, e)
			}
		}
		x.At = api.Pos{At: 0, Line: 1, Col: 1}
		if s, e := Write([]api.Token{x}); s != "" || e != api.ErrArg {
			t.Errorf("with a place: %.60q of kind %d, %d: %.60q %d", x.Text, x.Kind, x.N, s, e)
		}
	}
}

// Each kind is asked of each token's text: but of a string, one fits.
func TestP102OtherKinds(t *testing.T) {
	for _, a := range all() {
		if a.Kind == api.TkStr {
			continue
		}
		for k := range 256 {
			b := a
			b.Kind = uint8(k)
			want := api.ErrArg
			if b.Kind == a.Kind || b.Kind == api.TkStr && a.N == 0 {
				want = api.OK
			}
			if _, e := Write([]api.Token{b}); e != want {
				t.Errorf("%v as %d: %d", a, k, e)
			}
		}
	}
}

func TestP102MaxText(t *testing.T) {
	for _, a := range all() {
		w := writing(a)
		n := 4000 / (len(w) + 1)
		fill := 4000 - n*(len(w)+1) // the string that stands ahead, and has two bytes for itself
		if fill < 2 {
			n--
			fill += len(w) + 1
		}
		l := append([]api.Token{{Kind: api.TkStr, Text: strings.Repeat("x", fill-2)}}, slices.Repeat([]api.Token{a}, n)...)
		want := `"` + strings.Repeat("x", fill-2) + `"` + strings.Repeat(" "+w, n)
		if s, e := Write(l); s != want || e != api.OK || len(s) != 4000 {
			t.Errorf("%v: 4000 bytes: %d %d", a, len(s), e)
		}
		l[0].Text += "x"
		if s, e := Write(l); s != "" || e != api.ErrLong {
			t.Errorf("%v: one more: %d", a, e)
		}
		if s, e := Write(append(l, a)); s != "" || e != api.ErrLong {
			t.Errorf("%v: a token more: %d", a, e)
		}
		slices.Reverse(l)
		if s, e := Write(l); s != "" || e != api.ErrLong {
			t.Errorf("%v: reversed: %d", a, e)
		}
	}
}

func TestP102LongStrings(t *testing.T) {
	for _, c := range []string{"a", "\n", "\t", "\"", "\\", "\r", "\u00e4", "\u20ac", "\U0001d11e"} {
		w := len(writing(api.Token{Kind: api.TkStr, Text: c})) - 2
		n := 3998 / w
		for k := n - 1; k < n+3; k++ {
			a := api.Token{Kind: api.TkStr, Text: strings.Repeat(c, k)}
			want, e := writing(a), api.OK
			if k*w > 3998 {
				want, e = "", api.ErrLong
			}
			if s, got := Write([]api.Token{a}); s != want || got != e {
				t.Errorf("%d of %q: %d %d", k, c, len(s), got)
			}
		}
		for _, k := range []int{4000, 4001, 100000} {
			a := api.Token{Kind: api.TkStr, Text: strings.Repeat(c, k)}
			for _, l := range [][]api.Token{{a}, {{Kind: api.TkInt}, a}, {a, {Kind: api.TkInt}}, slices.Repeat([]api.Token{a}, 30)} {
				if s, e := Write(l); s != "" || e != api.ErrLong {
					t.Errorf("%d of %q: %d", k, c, e)
				}
			}
		}
	}
	if s, e := Write(slices.Repeat([]api.Token{{Kind: api.TkSign, Text: ";"}}, 100000)); s != "" || e != api.ErrLong {
		t.Error("many tokens", e)
	}
	if s, e := Write(append(slices.Repeat([]api.Token{{Kind: api.TkSign, Text: ";"}}, 100000), api.Token{})); s != "" || e != api.ErrArg {
		t.Error("many tokens, and what is none", e)
	}
}

func TestP102KeepsItsList(t *testing.T) {
	l := all()
	if _, e := Write(l); e != api.OK {
		t.Error(e)
	}
	if !slices.Equal(l, all()) {
		t.Error("the list was changed")
	}
}

func TestP103Lists(t *testing.T) {
	for _, x := range []struct {
		list func() []string
		want string
	}{
		{Words, "let rec in case of data"},
		{Prims, "open read write close array get set size fail len"},
		{Signs, `\ -> -1> -?> -*> = == ; { } ( ) | < ++ + - * / % _ ?`},
	} {
		want := strings.Split(x.want, " ")
		l := x.list()
		if !slices.Equal(l, want) {
			t.Error(l)
		}
		clear(l)
		if !slices.Equal(x.list(), want) {
			t.Error("lists share memory", x.list())
		}
	}
	if !are("let len", token(api.TkSign, "let", 0, 0), token(api.TkPrim, "len", 0, 4)) || !are("->", token(api.TkSign, "->", 0, 0)) {
		t.Error("tokens hang on the lists that were handed out")
	}
}

// somePrograms is n rows of tokens.
func somePrograms(n int) [][]api.Token {
	d := &dice{17}
	l := all()
	var rows [][]api.Token
	for range n {
		var row []api.Token
		for range d.below(40) {
			row = append(row, l[d.below(len(l))])
		}
		rows = append(rows, row)
	}
	return rows
}

func TestP104ThereAndBack(t *testing.T) {
	for _, l := range append(somePrograms(3000), nil) {
		s, e := Write(l)
		back, d := Tokens(s)
		if e != api.OK || d != (api.Diag{}) || !slices.Equal(bare(back), l) {
			t.Fatal(l)
		}
		if again, e := Write(back); again != s || e != api.OK {
			t.Fatal("again", l)
		}
	}
}

// Tokens of any text, written and read again, are the same ones.
func TestP104OfTexts(t *testing.T) {
	d := &dice{23}
	pieces := []string{"a", "B", "0", "17", "let", "len", "-", "->", "-1>", "-?", "+", "++", "=", "==", "(", "_", "\"x\\\\\"", "\"\\n\"", "\"\"", " ", "\n", "--r\n", "\t", "'"}
	for range 20000 {
		s := ""
		for range d.below(15) {
			s += d.pick(pieces)
		}
		l, diag := Tokens(s)
		if diag.E != api.OK {
			continue
		}
		w, e := Write(l)
		back, diag := Tokens(w)
		if e != api.OK || diag != (api.Diag{}) || !slices.Equal(bare(back), bare(l)) {
			t.Fatalf("%q %q", s, w)
		}
	}
}

// parted is s with gap behind it; what a remark stands behind may not be taken for its beginning.
func parted(s, gap string) string {
	if strings.HasSuffix(s, "-") && strings.HasPrefix(gap, "-") {
		s += " "
	}
	return s + gap
}

func TestP105Between(t *testing.T) {
	d := &dice{31}
	gaps := []string{" ", "\n", "\t", "\r", "\r\n", "  ", "--\n", " --a\n", "\n-- \"\n", "--\u20ac!\n\n", "-----\n\t", "--let x = 1\r\n"}
	for _, l := range somePrograms(2000) {
		s, at := "", []int{}
		for i, a := range l {
			if i > 0 || d.below(2) == 0 {
				s = parted(s, d.pick(gaps))
			}
			for d.below(3) == 0 {
				s += d.pick(gaps)
			}
			at = append(at, len(s))
			s += writing(a)
		}
		s = parted(s, d.pick([]string{"", " ", "\n", "--", " -- the end"}))
		if len(s) > 4000 {
			continue
		}
		got, diag := Tokens(s)
		if diag != (api.Diag{}) || !slices.Equal(bare(got), l) {
			t.Fatalf("%q", s)
		}
		for i, a := range got {
			if a.At != place(s, at[i]) {
				t.Fatalf("the place of the token %d of %q", i, s)
			}
		}
	}
}
