package chars_test

import (
	"math"
	"slices"
	"strings"
	"testing"
	"unicode/utf8"

	"quillwork/chars"
)

// span is all characters from first to last, and the class that the chapter gives them.
type span struct {
	first, last rune
	class       int
}

// spans is the chapter's section Words, written out from the least rune to the greatest one without a gap.
var spans = []span{
	{math.MinInt32, -1, 0},
	{0, 31, 1},
	{32, 32, 2},
	{33, '0' - 1, 5},
	{'0', '9', 4},
	{'9' + 1, 'A' - 1, 5},
	{'A', 'Z', 3},
	{'Z' + 1, 'a' - 1, 5},
	{'a', 'z', 3},
	{'z' + 1, 126, 5},
	{127, 127, 1},
	{128, 159, 3},
	{160, 160, 2},
	{161, 0xD7FF, 3},
	{0xD800, 0xDFFF, 0},
	{0xE000, 0xFFFC, 3},
	{0xFFFD, 0xFFFD, 5},
	{0xFFFE, 0x10FFFF, 3},
	{0x110000, math.MaxInt32, 0},
}

// classOf tells a class by the spans alone.
func classOf(c rune) int {
	for _, s := range spans {
		if s.first <= c && c <= s.last {
			return s.class
		}
	}
	panic("a gap between the spans")
}

// pieces are bits of texts that meet each edge of the chapter; none is empty.
var pieces = []string{
	"a", "Z", "7", "ñ", "€", "😀", " ", "\u00A0", ".", "\uFFFD",
	"\t", "\n", "\f", "\r", "\x00", "\x0B", "\x1F", "\x7F", "\u0080",
	"\xFF", "\xC3", "\xE2\x82", "\xED\xA0\x80", "\xC0\x80", "\xF4\x90\x80\x80",
}

// texts are all rows of up to three pieces.
func texts() []string {
	all := []string{""}
	for from, n := 0, 0; n < 3; n++ {
		to := len(all)
		for _, s := range all[from:to] {
			for _, p := range pieces {
				all = append(all, s+p)
			}
		}
		from = to
	}
	return all
}

// read tells a text's characters by the library's decoder, one by one.
func read(s string) []rune {
	var l []rune
	for len(s) > 0 {
		c, n := utf8.DecodeRuneInString(s)
		l = append(l, c)
		s = s[n:]
	}
	return l
}

func TestP1_1ClassAtEachBound(t *testing.T) {
	for _, s := range spans {
		for _, c := range []rune{s.first, s.last} {
			if got := chars.Class(c); got != s.class {
				t.Errorf("Class(%d) = %d, want %d", c, got, s.class)
			}
			if got, want := chars.May(c), s.class > 1; got != want {
				t.Errorf("May(%d) = %v, want %v", c, got, want)
			}
		}
	}
}

func TestP1_1ClassOfEveryCharacter(t *testing.T) {
	for c := rune(-300); c <= 0x110000+300; c++ {
		want := classOf(c)
		if got := chars.Class(c); got != want {
			t.Fatalf("Class(%d) = %d, want %d", c, got, want)
		}
		if got := chars.May(c); got != (want > 1) {
			t.Fatalf("May(%d) = %v, want %v", c, got, want > 1)
		}
	}
}

func TestP1_1Examples(t *testing.T) {
	for c, want := range map[rune]int{'ñ': 3, 160: 2, 7: 1, -1: 0, '.': 5} {
		if got := chars.Class(c); got != want {
			t.Errorf("Class(%d) = %d, want %d", c, got, want)
		}
	}
}

func TestP1_2Examples(t *testing.T) {
	s := "a\tb\x00c\n\xff"
	if got, want := chars.Clean(s), []rune{'a', 32, 'b', 'c', 10, 0xFFFD}; !slices.Equal(got, want) {
		t.Errorf("Clean(%q) = %x, want %x", s, got, want)
	}
	if got, want := chars.Flat(s), []rune{'a', 32, 'b', 'c', 32, 0xFFFD}; !slices.Equal(got, want) {
		t.Errorf("Flat(%q) = %x, want %x", s, got, want)
	}
}

func TestP1_2EveryCharacterAlone(t *testing.T) {
	for c := rune(0); c <= 0x10FFFF; c++ {
		if c >= 0xD800 && c <= 0xDFFF {
			continue
		}
		clean, flat := []rune{c}, []rune{c}
		switch {
		case c == 9 || c == 12 || c == 13:
			clean, flat = []rune{32}, []rune{32}
		case c == 10:
			flat = []rune{32}
		case c < 32 || c == 127:
			clean, flat = nil, nil
		}
		if got := chars.Clean(string(c)); !slices.Equal(got, clean) {
			t.Fatalf("Clean of %d = %x, want %x", c, got, clean)
		}
		if got := chars.Flat(string(c)); !slices.Equal(got, flat) {
			t.Fatalf("Flat of %d = %x, want %x", c, got, flat)
		}
	}
}

func TestP1_2BytesThatBeginNoCharacter(t *testing.T) {
	const bad = 0xFFFD
	for s, want := range map[string][]rune{
		"":                      nil,
		"\x80":                  {bad},
		"\xC3":                  {bad},
		"\xC3a":                 {bad, 'a'},
		"\xE2\x82":              {bad, bad},
		"\xE2\x82\xAC":          {'€'},
		"\xC0\x80":              {bad, bad},
		"\xED\xA0\x80":          {bad, bad, bad},
		"\xED\x9F\xBF":          {0xD7FF},
		"\xF4\x8F\xBF\xBF":      {0x10FFFF},
		"\xF4\x90\x80\x80":      {bad, bad, bad, bad},
		"\xFE\n\xFF":            {bad, 10, bad},
		"\xEF\xBF\xBD":          {bad},
		"x\xF0\x9F\x98":         {'x', bad, bad, bad},
		"\xF0\x9F\x98\x80\x01y": {0x1F600, 'y'},
	} {
		if got := chars.Clean(s); !slices.Equal(got, want) {
			t.Errorf("Clean(%q) = %x, want %x", s, got, want)
		}
	}
}

func TestP1_2FlatIsCleanWithoutBreaks(t *testing.T) {
	for _, s := range texts() {
		want := chars.Clean(s)
		for i, c := range want {
			if c == 10 {
				want[i] = 32
			}
		}
		if got := chars.Flat(s); !slices.Equal(got, want) {
			t.Fatalf("Flat(%q) = %x, want %x", s, got, want)
		}
	}
}

func TestP1_2AnswersAreNewMemory(t *testing.T) {
	for _, call := range []func(string) []rune{chars.Clean, chars.Flat} {
		first := call("abc")
		first[1] = 'x'
		if got := call("abc"); !slices.Equal(got, []rune("abc")) {
			t.Errorf("an answer hangs on an earlier one: %q", string(got))
		}
	}
}

func TestP1_3Text(t *testing.T) {
	for _, c := range []struct {
		l    []rune
		want string
	}{
		{nil, ""},
		{[]rune{}, ""},
		{[]rune{'a', 0xF1, 0x20AC, 0x1F600}, "añ€😀"},
		{[]rune{0, 9, 10, 127}, "\x00\t\n\x7F"},
		{[]rune{-1, math.MinInt32}, "\uFFFD\uFFFD"},
		{[]rune{0xD7FF, 0xD800, 0xDFFF, 0xE000}, "\uD7FF\uFFFD\uFFFD\uE000"},
		{[]rune{0x10FFFF, 0x110000, math.MaxInt32}, "\U0010FFFF\uFFFD\uFFFD"},
	} {
		before := slices.Clone(c.l)
		if got := chars.Text(c.l); got != c.want {
			t.Errorf("Text(%x) = %q, want %q", c.l, got, c.want)
		}
		if !slices.Equal(c.l, before) {
			t.Errorf("Text has changed its argument: %x, ahead %x", c.l, before)
		}
	}
}

func TestP1_3TextKeepsNothing(t *testing.T) {
	l := []rune("abc")
	s := chars.Text(l)
	l[0] = 'x'
	if s != "abc" {
		t.Errorf("Text's answer changed with the row: %q", s)
	}
}

func TestP1_3Count(t *testing.T) {
	for s, want := range map[string]int{
		"": 0, "a": 1, "añb": 3, "😀€": 2, "\xFF\xFE": 2, "\xE2\x82": 2, "\x00\n\t": 3, "\xED\xA0\x80": 3,
	} {
		if got := chars.Count(s); got != want {
			t.Errorf("Count(%q) = %d, want %d", s, got, want)
		}
	}
	for _, s := range texts() {
		if got, want := chars.Count(s), len(read(s)); got != want {
			t.Fatalf("Count(%q) = %d, want %d", s, got, want)
		}
	}
}

func TestP1_3Part(t *testing.T) {
	for _, c := range []struct {
		s        string
		from, to int
		want     string
	}{
		{"añb", 1, 2, "ñ"},
		{"añb", -3, 9, "añb"},
		{"añb", 0, 3, "añb"},
		{"añb", 0, 1, "a"},
		{"añb", 2, 3, "b"},
		{"añb", 1, 1, ""},
		{"añb", 2, 1, ""},
		{"añb", 9, -3, ""},
		{"añb", -9, -3, ""},
		{"añb", 3, 9, ""},
		{"añb", 4, 5, ""},
		{"añb", -1, 0, ""},
		{"añb", -1, 1, "a"},
		{"añb", 2, 4, "b"},
		{"añb", math.MinInt, math.MaxInt, "añb"},
		{"añb", math.MaxInt, math.MinInt, ""},
		{"añb", math.MinInt, 1, "a"},
		{"añb", 1, math.MaxInt, "ñb"},
		{"", 0, 0, ""},
		{"", -1, 1, ""},
		{"a\xFFb", 1, 3, "\uFFFDb"},
		{"a\xE2\x82b", 1, 2, "\uFFFD"},
		{"a\xE2\x82b", 0, 9, "a\uFFFD\uFFFDb"},
		{"\x00\t\n\x7F", 0, 4, "\x00\t\n\x7F"},
		{"\x00\t\n\x7F", 1, 3, "\t\n"},
	} {
		if got := chars.Part(c.s, c.from, c.to); got != c.want {
			t.Errorf("Part(%q, %d, %d) = %q, want %q", c.s, c.from, c.to, got, c.want)
		}
	}
}

func TestP1_3EveryPart(t *testing.T) {
	for _, s := range []string{"", "a", "añ€😀 \n\x00", "a\xFF\xE2\x82b\xC3", strings.Join(pieces, "")} {
		l := read(s)
		for from := -2; from <= len(l)+2; from++ {
			for to := -2; to <= len(l)+2; to++ {
				want := ""
				if a, b := max(0, min(from, len(l))), max(0, min(to, len(l))); a < b {
					want = string(l[a:b])
				}
				if got := chars.Part(s, from, to); got != want {
					t.Errorf("Part(%q, %d, %d) = %q, want %q", s, from, to, got, want)
				}
			}
		}
	}
}

func TestP1_4Words(t *testing.T) {
	for _, c := range []struct {
		l    []rune
		want [][2]int
	}{
		{nil, nil},
		{[]rune{}, nil},
		{[]rune("ab, c1"), [][2]int{{0, 2}, {4, 6}}},
		{[]rune("a"), [][2]int{{0, 1}}},
		{[]rune("1"), [][2]int{{0, 1}}},
		{[]rune(" "), nil},
		{[]rune(" . ,"), nil},
		{[]rune(" a"), [][2]int{{1, 2}}},
		{[]rune("a "), [][2]int{{0, 1}}},
		{[]rune("  a  bc  "), [][2]int{{2, 3}, {5, 7}}},
		{[]rune("añ1Z9"), [][2]int{{0, 5}}},
		{[]rune("a_b-c'd"), [][2]int{{0, 1}, {2, 3}, {4, 5}, {6, 7}}},
		{[]rune{'a', 160, 'b'}, [][2]int{{0, 1}, {2, 3}}},
		{[]rune{'a', 0xFFFD, 'b'}, [][2]int{{0, 1}, {2, 3}}},
		{[]rune{'a', 10, 'b', 127, 'c', 0, 'd'}, [][2]int{{0, 1}, {2, 3}, {4, 5}, {6, 7}}},
		{[]rune{'a', -1, 'b', 0xD800, 'c', 0x110000}, [][2]int{{0, 1}, {2, 3}, {4, 5}}},
		{[]rune{128, 159, 161, 0x1F600, 0xFFFE}, [][2]int{{0, 5}}},
	} {
		before := slices.Clone(c.l)
		if got := chars.Words(c.l); !slices.Equal(got, c.want) {
			t.Errorf("Words(%q) = %v, want %v", c.l, got, c.want)
		}
		if !slices.Equal(c.l, before) {
			t.Errorf("Words has changed its argument: %x, ahead %x", c.l, before)
		}
	}
}

func TestP1_4RoomBehindTheEndIsNoPartOfTheRow(t *testing.T) {
	whole := []rune("ab cd")
	if got := chars.Words(whole[:1]); !slices.Equal(got, [][2]int{{0, 1}}) {
		t.Errorf("Words of the first of %q = %v", string(whole), got)
	}
	if got := chars.Text(whole[:1]); got != "a" {
		t.Errorf("Text of the first of %q = %q", string(whole), got)
	}
	if string(whole) != "ab cd" {
		t.Errorf("the room behind the end has changed: %q", string(whole))
	}
}

func TestP1_4AnswersAreNewMemory(t *testing.T) {
	l := []rune("ab c")
	first := chars.Words(l)
	first[0] = [2]int{7, 7}
	if got := chars.Words(l); !slices.Equal(got, [][2]int{{0, 2}, {3, 4}}) {
		t.Errorf("an answer hangs on an earlier one: %v", got)
	}
}

func TestP1_5ThereAndBack(t *testing.T) {
	for c := rune(-1); c <= 0x110000; c++ {
		if l := []rune{'a', c, c}; chars.May(c) || c == 10 {
			if got := chars.Clean(chars.Text(l)); !slices.Equal(got, l) {
				t.Fatalf("Clean(Text(%x)) = %x", l, got)
			}
		}
	}
	for _, s := range texts() {
		l := chars.Clean(s)
		for _, c := range l {
			if !chars.May(c) && c != 10 {
				t.Fatalf("Clean(%q) has %d", s, c)
			}
		}
		if got := chars.Clean(chars.Text(l)); !slices.Equal(got, l) {
			t.Fatalf("Clean of the text of Clean(%q) = %x, want %x", s, got, l)
		}
	}
}

func TestP1_6PartsAreTheText(t *testing.T) {
	for _, s := range texts() {
		if !utf8.ValidString(s) {
			continue
		}
		n := chars.Count(s)
		for cut := -1; cut <= n+1; cut++ {
			if got := chars.Part(s, 0, cut) + chars.Part(s, cut, n); got != s {
				t.Fatalf("%q cut at %d is %q", s, cut, got)
			}
		}
	}
}

func TestP1_7WordsDoNotTouch(t *testing.T) {
	of := func(c rune) bool { return classOf(c) == 3 || classOf(c) == 4 }
	for _, s := range texts() {
		l := read(s)
		last := 0
		words := chars.Words(l)
		for i, w := range words {
			if w[0] >= w[1] || w[0] < last || w[1] > len(l) || i > 0 && w[0] == last {
				t.Fatalf("Words(%q) = %v", s, words)
			}
			if slices.ContainsFunc(l[last:w[0]], of) {
				t.Fatalf("Words(%q) = %v: letters ahead of word %d", s, words, i)
			}
			for _, c := range l[w[0]:w[1]] {
				if !of(c) {
					t.Fatalf("Words(%q) = %v: %d in word %d", s, words, c, i)
				}
			}
			last = w[1]
		}
		if slices.ContainsFunc(l[last:], of) {
			t.Fatalf("Words(%q) = %v: letters behind the last word", s, words)
		}
	}
}

func TestP1_8Joined(t *testing.T) {
	var whole []string
	for _, s := range append(slices.Clone(pieces), "", "aé\n", "\t😀") {
		if utf8.ValidString(s) {
			whole = append(whole, s)
		}
	}
	for _, a := range whole {
		for _, b := range whole {
			if got, want := chars.Count(a+b), chars.Count(a)+chars.Count(b); got != want {
				t.Errorf("Count(%q) = %d, want %d", a+b, got, want)
			}
			if got, want := chars.Clean(a+b), append(chars.Clean(a), chars.Clean(b)...); !slices.Equal(got, want) {
				t.Errorf("Clean(%q) = %x, want %x", a+b, got, want)
			}
			if got, want := chars.Flat(a+b), append(chars.Flat(a), chars.Flat(b)...); !slices.Equal(got, want) {
				t.Errorf("Flat(%q) = %x, want %x", a+b, got, want)
			}
			n := chars.Count(a)
			if x, y := chars.Part(a+b, 0, n), chars.Part(a+b, n, n+chars.Count(b)); x != a || y != b {
				t.Errorf("the parts of %q and %q are %q and %q", a, b, x, y)
			}
		}
	}
}
