package utf

import (
	"math"
	"slices"
	"strings"
	"testing"

	"usufruct/api"
)

func point(n, at, line, col int) api.Point {
	return api.Point{R: rune(n), At: api.Pos{At: at, Line: line, Col: col}}
}

// refused says whether Points and End tell of s the error e at that place, and nothing beside it.
func refused(s string, e api.Errno, at api.Pos) bool {
	l, d := Points(s)
	p, d2 := End(s)
	want := api.Diag{E: e, At: at}
	return len(l) == 0 && d == want && p == api.Pos{} && d2 == want
}

func TestP91Examples(t *testing.T) {
	if l, d := Points("a"); d != (api.Diag{}) || !slices.Equal(l, []api.Point{point(97, 0, 1, 1)}) {
		t.Error("Points(a)", l, d)
	}
	for _, x := range []struct {
		s  string
		at api.Pos
	}{
		{"\x61\xc3", api.Pos{At: 1, Line: 1, Col: 2}},
		{"\xc0\x80", api.Pos{At: 0, Line: 1, Col: 1}},
		{"\xed\xa0\x80", api.Pos{At: 0, Line: 1, Col: 1}},
	} {
		if !refused(x.s, api.ErrUtf, x.at) {
			t.Errorf("%q", x.s)
		}
	}
}

func TestP91Empty(t *testing.T) {
	if l, d := Points(""); len(l) != 0 || d != (api.Diag{}) {
		t.Error(l, d)
	}
}

func TestP91Places(t *testing.T) {
	l, d := Points("a\u00e4\n\n\u20ac\U0001d11e\nb")
	want := []api.Point{
		point(97, 0, 1, 1), point(228, 1, 1, 2), point(10, 3, 1, 3), point(10, 4, 2, 1),
		point(8364, 5, 3, 1), point(119070, 8, 3, 2), point(10, 12, 3, 3), point(98, 13, 4, 1),
	}
	if d != (api.Diag{}) || !slices.Equal(l, want) {
		t.Error(l, d)
	}
}

// No other code point ends a line, and none is as wide as two.
func TestP91TenAloneEndsLines(t *testing.T) {
	for _, n := range []int{0, 8, 9, 11, 12, 13, 32, 127, 133, 768, 8203, 8232, 8233, 65279, 65292, 127344} {
		if p, d := End(bytesOf(n)); d != (api.Diag{}) || p != (api.Pos{At: width(n), Line: 1, Col: 2}) {
			t.Error(n, p, d)
		}
	}
	if p, d := End("\r\n\n\r"); d != (api.Diag{}) || p != (api.Pos{At: 4, Line: 3, Col: 2}) {
		t.Error(p, d)
	}
}

// Each code point alone, and ahead of and behind others; each number that is none, written as if it were one.
func TestP91EachCodePoint(t *testing.T) {
	for n := range 2097152 {
		s := bytesOf(n)
		if !isPoint(n) {
			if !refused("\n"+s, api.ErrUtf, api.Pos{At: 1, Line: 2, Col: 1}) {
				t.Fatal(n)
			}
			continue
		}
		l, d := Points("b" + s + "c")
		p := point(n, 1, 1, 2)
		c := api.Point{R: 99, At: api.Pos{At: 1 + len(s), Line: 1, Col: 3}}
		if n == 10 {
			c.At.Line, c.At.Col = 2, 1
		}
		if d != (api.Diag{}) || !slices.Equal(l, []api.Point{point(98, 0, 1, 1), p, c}) {
			t.Fatal(n, l, d)
		}
	}
}

func TestP91NoCodePoint(t *testing.T) {
	ways := map[string][]string{
		"none begins with that byte": {"\x80", "\x8f", "\xbf", "\xf8", "\xf8\x88\x80\x80\x80", "\xfc\x84\x80\x80\x80\x80", "\xfe", "\xff", "\x80\x80", "\xbf\xbd"},
		"cut short by the end":       {"\xc2", "\xdf", "\xe0", "\xe0\xa0", "\xe2\x82", "\xef", "\xef\xbf", "\xf0", "\xf0\x90", "\xf0\x90\x80", "\xf0\x9d\x84", "\xf4\x8f\xbf"},
		"cut short by another byte":  {"\xc2a", "\xc2\n\x80", "\xc3\xc3\xa4", "\xe2\x82\n", "\xe2\x82\xe2\x82\xac", "\xe2\xc2\x80", "\xef\xbf\xff", "\xef\xbf\x3d", "\xf0\x9d\x84a", "\xf0\x9d\x41\x9e", "\xf0\xc3\xa4\x80", "\xf0\x9d\x84\xf0\x9d\x84\x9e", "\xc2\x7f", "\xc2\xc0"},
		"more bytes than it has":     {"\xc0\x80", "\xc1\xbf", "\xe0\x80\x80", "\xe0\x9f\xbf", "\xf0\x80\x80\x80", "\xf0\x8f\xbf\xbf", "\xf0\x8f\xbf\xbd", "\xc0\x8a", "\xe0\x80\x8a"},
		"from 55296 to 57343":        {"\xed\xa0\x80", "\xed\xad\xbf", "\xed\xae\x80", "\xed\xaf\xbf", "\xed\xb0\x80", "\xed\xbf\xbf", "\xed\xa0\xbd\xed\xb8\x80"},
		"above 1114111":              {"\xf4\x90\x80\x80", "\xf4\xbf\xbf\xbf", "\xf5\x80\x80\x80", "\xf7\xbf\xbf\xbf"},
	}
	for way, texts := range ways {
		for _, s := range texts {
			for _, ahead := range [][]int{nil, {97}, {10}, {228, 10, 8364}, {65533}, {10, 10, 119070, 65533, 65533}} {
				for _, rest := range []string{"", "a", "\n", "\xff", "\U0001d11e"} {
					if !refused(textOf(ahead)+s+rest, api.ErrUtf, placeOf(ahead)) {
						t.Errorf("%s: %q behind %v, ahead of %q", way, s, ahead, rest)
					}
				}
			}
		}
	}
}

// The library's mark for what can't be read is a code point of its own, where its three bytes stand.
func TestP91Mark(t *testing.T) {
	l, d := Points("\xef\xbf\xbd\n\xef\xbf\xbd\xef\xbf\xbd")
	if d != (api.Diag{}) || !slices.Equal(l, []api.Point{point(65533, 0, 1, 1), point(10, 3, 1, 2), point(65533, 4, 2, 1), point(65533, 7, 2, 2)}) {
		t.Error(l, d)
	}
	if !refused("\xef\xbf\xbd\xef\xbf", api.ErrUtf, api.Pos{At: 3, Line: 1, Col: 2}) || !refused("\xff\xef\xbf\xbd", api.ErrUtf, api.Pos{At: 0, Line: 1, Col: 1}) {
		t.Error("beside what is none")
	}
}

func TestP91OfTwoBytes(t *testing.T) {
	for a := range 256 {
		for b := range 256 {
			for _, s := range []string{string([]byte{byte(a)}), string([]byte{byte(a), byte(b)}), string([]byte{10, byte(a), byte(b), 10})} {
				if !asModel(s) {
					t.Fatalf("%q", s)
				}
			}
		}
	}
}

func TestP91OfThreeBytes(t *testing.T) {
	for a := 190; a < 256; a++ {
		for b := range 256 {
			for _, c := range edgeBytes() {
				if s := string([]byte{byte(a), byte(b), c}); !asModel(s) {
					t.Fatalf("%q", s)
				}
			}
		}
	}
}

func TestP91OfFourBytes(t *testing.T) {
	for _, a := range edgeBytes() {
		for _, b := range edgeBytes() {
			for _, c := range edgeBytes() {
				for _, d := range edgeBytes() {
					if s := string([]byte{a, b, c, d}); !asModel(s) {
						t.Fatalf("%q", s)
					}
				}
			}
		}
	}
}

// Many texts, whole and with one byte of them changed, left out or put in.
func TestP91Broken(t *testing.T) {
	d := &dice{1}
	for _, l := range someTexts(2000, 40) {
		s := textOf(l)
		if !asModel(s) {
			t.Fatalf("%q", s)
		}
		for range 10 {
			if s == "" {
				break
			}
			i, b := d.below(len(s)), string([]byte{byte(d.below(256))})
			for _, x := range []string{s[:i] + b + s[i+1:], s[:i] + s[i+1:], s[:i] + b + s[i:], s[:i], s[i:]} {
				if !asModel(x) {
					t.Fatalf("%q", x)
				}
			}
		}
	}
}

func TestP91MaxText(t *testing.T) {
	for _, l := range [][]int{{97}, {10}, {0}, {228}, {8364}, {119070}, {97, 8364}, {65533, 10}, {1114111, 2047, 128}} {
		piece := textOf(l)
		s := strings.Repeat("a", 4000%len(piece)) + strings.Repeat(piece, 4000/len(piece))
		if !asModel(s) {
			t.Errorf("%q: 4000 bytes", piece)
		}
		if !asModel(s[:4000-len(piece)]) {
			t.Errorf("%q: fewer", piece)
		}
		for _, more := range []string{"a", "\n", "\xff", "\u20ac", strings.Repeat("a", 1<<20)} {
			if !refused(s+more, api.ErrLong, api.Pos{}) || !refused(more+s, api.ErrLong, api.Pos{}) {
				t.Errorf("%q: more than 4000 bytes, %q", piece, more[:1])
			}
		}
		if got, d := Points(s); d != (api.Diag{}) || len(got) != 4000%len(piece)+4000/len(piece)*len(l) {
			t.Errorf("%q: 4000 bytes: %v", piece, d)
		}
	}
	if !refused(strings.Repeat("\xff", 4001), api.ErrLong, api.Pos{}) {
		t.Error("too long goes ahead of what is no code point")
	}
	if s := strings.Repeat("a", 1999) + "\n" + strings.Repeat("b", 1998) + "\xe2\x82"; !refused(s, api.ErrUtf, api.Pos{At: 3998, Line: 2, Col: 1999}) {
		t.Error("cut short at the limit")
	}
	if !refused(strings.Repeat("a", 3998)+"\u20ac", api.ErrLong, api.Pos{}) {
		t.Error("a code point across the limit")
	}
}

func TestP91NewMemory(t *testing.T) {
	a, _ := Points("ab\n")
	b, _ := Points("ab\n")
	a[0], a[1], a[2] = api.Point{}, api.Point{}, api.Point{}
	if !slices.Equal(b, []api.Point{point(97, 0, 1, 1), point(98, 1, 1, 2), point(10, 2, 1, 3)}) {
		t.Error("lists share memory")
	}
}

func TestP92End(t *testing.T) {
	for _, x := range []struct {
		s string
		p api.Pos
	}{
		{"", api.Pos{At: 0, Line: 1, Col: 1}},
		{"a\nb", api.Pos{At: 3, Line: 2, Col: 2}},
		{"a", api.Pos{At: 1, Line: 1, Col: 2}},
		{"\n", api.Pos{At: 1, Line: 2, Col: 1}},
		{"a\n", api.Pos{At: 2, Line: 2, Col: 1}},
		{"\n\n\u20ac\u20ac", api.Pos{At: 8, Line: 3, Col: 3}},
		{strings.Repeat("a", 4000), api.Pos{At: 4000, Line: 1, Col: 4001}},
		{strings.Repeat("\n", 4000), api.Pos{At: 4000, Line: 4001, Col: 1}},
		{strings.Repeat("\U0001d11e", 1000), api.Pos{At: 4000, Line: 1, Col: 1001}},
	} {
		if p, d := End(x.s); p != x.p || d != (api.Diag{}) {
			t.Errorf("%q: %v %v", x.s[:min(9, len(x.s))], p, d)
		}
	}
}

func TestP93Examples(t *testing.T) {
	if s, e := Put([]rune{228, 8364, 119070}); s != "\xc3\xa4\xe2\x82\xac\xf0\x9d\x84\x9e" || e != api.OK {
		t.Errorf("%q %d", s, e)
	}
	for _, r := range []rune{55296, -1, 1114112} {
		if s, e := Put([]rune{r}); s != "" || e != api.ErrArg {
			t.Errorf("%d: %q %d", r, s, e)
		}
	}
	if s, e := Put(nil); s != "" || e != api.OK {
		t.Errorf("nil: %q %d", s, e)
	}
	if s, e := Put([]rune{}); s != "" || e != api.OK {
		t.Errorf("none: %q %d", s, e)
	}
}

func TestP93EachNumber(t *testing.T) {
	for n := -70000; n < 1200000; n++ {
		want, e := "", api.ErrArg
		if isPoint(n) {
			want, e = bytesOf(n), api.OK
		}
		if s, got := Put([]rune{rune(n)}); s != want || got != e {
			t.Fatalf("%d: %q %d", n, s, got)
		}
	}
}

func TestP93NoCodePoint(t *testing.T) {
	for _, r := range []rune{-1, -97, 55296, 56319, 56320, 57343, 1114112, 1114113, 2097151, math.MaxInt32, math.MinInt32} {
		for i := range 5 {
			l := slices.Insert([]rune{97, 10, 65533, 119070}, i, r)
			if s, e := Put(l); s != "" || e != api.ErrArg {
				t.Errorf("%v: %q %d", l, s, e)
			}
		}
	}
}

func TestP93MaxText(t *testing.T) {
	for _, n := range []int{0, 10, 97, 127, 128, 2047, 2048, 65533, 65535, 65536, 1114111} {
		k := width(n)
		l := append(slices.Repeat([]rune{rune(n)}, 4000/k), slices.Repeat([]rune{97}, 4000%k)...)
		if s, e := Put(l); e != api.OK || s != strings.Repeat(bytesOf(n), 4000/k)+strings.Repeat("a", 4000%k) {
			t.Errorf("%d: 4000 bytes: %d", n, e)
		}
		for _, more := range []rune{0, 97, 228, 8364, 119070} {
			if s, e := Put(append(slices.Clone(l), more)); s != "" || e != api.ErrLong {
				t.Errorf("%d: more, %d: %d", n, more, e)
			}
			for _, bad := range []rune{-1, 55296, 1114112} {
				if s, e := Put(append(slices.Clone(l), more, bad)); s != "" || e != api.ErrArg {
					t.Errorf("%d: what is no code point goes ahead: %d", n, e)
				}
				if s, e := Put(append([]rune{bad, more}, l...)); s != "" || e != api.ErrArg {
					t.Errorf("%d: what is no code point goes ahead, first: %d", n, e)
				}
			}
		}
	}
	if s, e := Put(make([]rune, 1<<20)); s != "" || e != api.ErrLong {
		t.Error("many more", e)
	}
}

func TestP93KeepsItsList(t *testing.T) {
	l := []rune{97, 8364, 10}
	s, _ := Put(l)
	if !slices.Equal(l, []rune{97, 8364, 10}) {
		t.Error("the list was changed")
	}
	l[0], l[2] = 98, 98
	if s != "a\u20ac\n" {
		t.Error("the list was kept")
	}
}

func TestP94ThereAndBack(t *testing.T) {
	for _, l := range append(someTexts(3000, 60), edges(), []int{}) {
		runes := runesOf(l)
		s, e := Put(runes)
		points, d := Points(s)
		if e != api.OK || d != (api.Diag{}) || s != textOf(l) || !slices.Equal(codes(points), runes) {
			t.Fatal(l)
		}
		if back, e := Put(codes(points)); e != api.OK || back != s {
			t.Fatal("back", l)
		}
		end, _ := End(s)
		places := append(points, api.Point{At: end})
		for i, n := range l {
			if places[i].At.At+width(n) != places[i+1].At.At {
				t.Fatal("places", l)
			}
		}
	}
}

// from is the place p of a text that stands behind another one, whose End is end.
func from(end, p api.Pos) api.Pos {
	if p.Line == 1 {
		p.Col += end.Col - 1
	}
	p.Line += end.Line - 1
	p.At += end.At
	return p
}

func TestP95Behind(t *testing.T) {
	var texts []string
	for _, l := range append(someTexts(120, 12), nil, []int{10}, []int{97, 10}, []int{10, 97}, []int{65533}) {
		texts = append(texts, textOf(l))
	}
	for _, a := range texts {
		for _, b := range texts {
			want, _ := Points(a)
			end, _ := End(a)
			second, _ := Points(b)
			for _, p := range second {
				want = append(want, api.Point{R: p.R, At: from(end, p.At)})
			}
			if l, d := Points(a + b); d != (api.Diag{}) || !slices.Equal(l, want) {
				t.Fatalf("%q %q", a, b)
			}
			last, _ := End(b)
			if p, d := End(a + b); d != (api.Diag{}) || p != from(end, last) {
				t.Fatalf("the end of %q %q", a, b)
			}
		}
	}
}

// Where the second one is no text, the place of that is told from the first one's End on, too.
func TestP95BehindBroken(t *testing.T) {
	for _, l := range someTexts(200, 12) {
		a := textOf(l)
		end, _ := End(a)
		for _, b := range []string{"\xff", "a\n\xc0\x80", "\u20ac\xe2\x82", "\n\n\xed\xa0\x80", "\xf4\x90\x80\x80"} {
			_, d := Points(b)
			if !refused(a+b, api.ErrUtf, from(end, d.At)) {
				t.Fatalf("%q %q", a, b)
			}
		}
	}
}
