package css_test

import (
	"math"
	"strconv"
	"strings"
	"testing"

	"quillwork/api"
	"quillwork/css"
)

// said is a declaration, and what it sets and clears.
type said struct {
	text       string
	set, clear int
}

// sayings are the chapter's table, written out.
var sayings = []said{
	{"font-weight:bold", 1, 0},
	{"font-weight:700", 1, 0},
	{"font-weight:normal", 0, 1},
	{"font-weight:400", 0, 1},
	{"font-style:italic", 2, 0},
	{"font-style:normal", 0, 2},
	{"text-decoration:underline", 4, 8},
	{"text-decoration:line-through", 8, 4},
	{"text-decoration:underline line-through", 12, 0},
	{"text-decoration:line-through underline", 12, 0},
	{"text-decoration:underline underline", 4, 8},
	{"text-decoration:line-through line-through", 8, 4},
	{"text-decoration:underline line-through underline", 12, 0},
	{"text-decoration:line-through   underline", 12, 0},
	{"text-decoration:none", 0, 12},
}

// nothings are declarations that say nothing, each for a reason of its own.
var nothings = []string{
	"", " ", ":", "::", " : ", "x", "bold", "italic", "none", "underline",
	"font-weight", "font-style", "text-decoration", "font-weight bold", "font-weight=bold",
	"font-weight:", ":bold", "font-weight::bold", "font-weight:bold:", "font-weight:bold:x", ":font-weight:bold",
	"font-weight: ", "font-style:", "font-style: ", "text-decoration:", "text-decoration: ", "text-decoration:    ",
	"font-weight:100", "font-weight:300", "font-weight:500", "font-weight:600", "font-weight:800", "font-weight:7", "font-weight:70", "font-weight:7000", "font-weight:0700", "font-weight:+700", "font-weight:700.0", "font-weight:7 00", "font-weight:700 700",
	"font-weight:4", "font-weight:40", "font-weight:4000", "font-weight:0400", "font-weight:+400", "font-weight:400.0", "font-weight:4e2", "font-weight:0x190", "font-weight:4 00", "font-weight:400 400", "font-weight:400 normal", "font-weight:400 700", "font-weight:400,700",
	"font-weight:400!important", "font-weight:400 !important", "font-weight:400px", "font-weight:-400", "font-weight:\"400\"", "font-weight:400:", "font-weight::400", "font-weight:400:400", "font-weight 400", "font-weight=400", ":400", "400",
	"font-weight:bolder", "font-weight:bol", "font-weight:b old", "font-weight:bold bold", "font-weight:bold normal", "font-weight:normal normal", "font-weight:normal 400", "font-weight:nor mal", "font-weight:bold 400", "font-weight:bold 700", "font-weight:bold,700",
	"font-weight:bold!important", "font-weight:bold !important", "font-weight:\"bold\"", "font-weight:'bold'", "font-weight:/**/bold",
	"font-weight:none", "font-weight:italic", "font-weight:underline", "font-weight:line-through", "font-weight:normals", "font-weight:inherit",
	"font-style:700", "font-style:400", "font-style:italic 400", "font-style:bold", "font-style:none", "font-style:underline", "font-style:oblique", "font-style:italics", "font-style:italic italic", "font-style:italic normal",
	"text-decoration:normal", "text-decoration:bold", "text-decoration:700", "text-decoration:400", "text-decoration:underline 400", "text-decoration:none 400", "text-decoration:italic",
	"text-decoration:none none", "text-decoration:none underline", "text-decoration:underline none", "text-decoration:line-through none",
	"text-decoration:underline x", "text-decoration:x underline", "text-decoration:underline x line-through", "text-decoration:underline,line-through",
	"text-decoration:underlines", "text-decoration:under line", "text-decoration:line through", "text-decoration:line- through", "text-decoration:linethrough", "text-decoration:strike",
	"text-decoration:underlineline-through", "text-decoration:underline red", "text-decoration:overline", "text-decoration:underline overline",
	"color:red", "fontweight:bold", "font weight:bold", "font -weight:bold", "font- weight:bold", "font_weight:bold", "font-weights:bold", "xfont-weight:bold", "x font-weight:bold", "-font-weight:bold",
	"color:400", "weight:400", "font:400", "font-weights:400", "xfont-weight:400", "font weight:400",
	"font:bold", "font:italic", "weight:bold", "style:italic", "font-style-x:italic", "text-decoration-line:underline", "text-decorations:none", "decoration:none", "text decoration:none",
	"\x00", "\xff", "font-weight:\xffbold", "font-weight:bold\xff", "\xfffont-weight:bold", "font-weight\xc3:bold", "font-weight:bo\x00ld", "text-decoration:underline\xffline-through",
}

// gaps look like blanks, and are none.
var gaps = []string{"\t", "\n", "\v", "\f", "\r", "\x00", "\x1f", "!", "\u0085", "\u00A0", "\u2003", "\u3000", "\uFEFF", "\xA0", "\x85"}

// saying tells by the table above what one declaration says; it drops blanks and turns letters byte by byte.
func saying(one string) said {
	at := strings.IndexByte(one, ':')
	if at < 0 {
		return said{}
	}
	property, value := trimmed(one[:at]), trimmed(one[at+1:])
	if property == "text-decoration" {
		value = shortened(value)
	}
	for _, s := range sayings {
		if s.text == property+":"+value {
			return s
		}
	}
	return said{}
}

func trimmed(s string) string {
	for len(s) > 0 && s[0] == 32 {
		s = s[1:]
	}
	for len(s) > 0 && s[len(s)-1] == 32 {
		s = s[:len(s)-1]
	}
	low := ""
	for i := range len(s) {
		c := s[i]
		if c >= 65 && c <= 90 {
			c += 32
		}
		low += string([]byte{c})
	}
	return low
}

// shortened takes words that stand there already, and further blanks, out of words parted by blanks.
func shortened(value string) string {
	var l []string
	seen := map[string]bool{}
	for _, w := range strings.Split(value, " ") {
		if w != "" && !(seen[w] && w != "none") {
			l = append(l, w)
		}
		seen[w] = true
	}
	return strings.Join(l, " ")
}

// parsed asks each bit for the last declaration that says something of it.
func parsed(s string) (set, clear int) {
	all := strings.Split(s, ";")
	for bit := 1; bit <= 8; bit *= 2 {
		for i := len(all) - 1; i >= 0; i-- {
			one := saying(all[i])
			if (one.set|one.clear)&bit != 0 {
				set |= one.set & bit
				clear |= one.clear & bit
				break
			}
		}
	}
	return set, clear
}

// wantParse tells whether Parse answers so, and the same once more.
func wantParse(t *testing.T, s string, wantSet, wantClear int) {
	t.Helper()
	for range 2 {
		if set, clear := css.Parse(s); set != wantSet || clear != wantClear {
			t.Errorf("Parse(%.200q) = %d, %d, want %d, %d", s, set, clear, wantSet, wantClear)
			return
		}
	}
}

// spellings are all ways of writing a text with letters great and small.
func spellings(s string) []string {
	all := []string{""}
	for i := range len(s) {
		letter := s[i : i+1]
		var longer []string
		for _, a := range all {
			longer = append(longer, a+letter)
			if up := strings.ToUpper(letter); up != letter {
				longer = append(longer, a+up)
			}
		}
		all = longer
	}
	return all
}

func TestP4_1EachSaying(t *testing.T) {
	for _, s := range sayings {
		wantParse(t, s.text, s.set, s.clear)
	}
}

func TestP4_1WhatSaysNothing(t *testing.T) {
	for _, s := range nothings {
		wantParse(t, s, 0, 0)
		wantParse(t, s+";font-weight:bold;"+s+";text-decoration:none;"+s, 1, 12)
	}
}

func TestP4_1WhateverLettersAreGreat(t *testing.T) {
	for _, s := range sayings {
		property, value, _ := strings.Cut(s.text, ":")
		for _, p := range spellings(property) {
			wantParse(t, p+":"+value, s.set, s.clear)
		}
		if len(value) > 15 {
			value = value[:15] // the rest of two words is spelt with the other sayings
		}
		for _, v := range spellings(value) {
			wantParse(t, property+":"+v+s.text[len(property)+1+len(value):], s.set, s.clear)
		}
	}
}

func TestP4_1OnlyAToZHaveSmallOnes(t *testing.T) {
	for _, s := range []string{
		"font-we\u0130ght:bold", "font-we\u0131ght:bold", "font-style:\u0130talic", "font-style:\u0131talic", "font-\u017Ftyle:italic",
		"text-decorat\u0130on:none", "text-decoration:l\u0130ne-through", "text-decoration:underl\u0130ne",
		"\uFF46ont-weight:bold", "font-weight:\uFF22old", "font-weight:\uFF17\uFF10\uFF10", "font-weight:\uFF14\uFF10\uFF10", "font-weight:\u0664\u0660\u0660", "font-we\u0130ght:400", "font\u2010weight:bold", "font\u00ADweight:bold",
		// What stands beside A to Z and - and the digits, by one bit.
		"f/nt-weight:bold", "font\rweight:bold", "font-weight:\x1700", "font-weight:\x1400", "font-weight:4\x100", "font-weight:$00", "font-weight:4pp", "font-weight:tPP", "font-weight:\"old", "font-weight:B/LD", "font-style:)talic", "font-weight:bo\x0cd", "font-weight:\xc2old", "font-weight:\xe2old",
	} {
		wantParse(t, s, 0, 0)
	}
}

func TestP4_1BlanksAtTheEnds(t *testing.T) {
	blanks := []string{"", " ", "  ", strings.Repeat(" ", 40)}
	for _, s := range sayings {
		property, value, _ := strings.Cut(s.text, ":")
		for i := range 256 {
			b := func(n int) string { return blanks[i>>(2*n)&3] }
			wantParse(t, b(0)+property+b(1)+":"+b(2)+value+b(3), s.set, s.clear)
			wantParse(t, ";"+b(0)+property+b(1)+":"+b(2)+value+b(3)+";", s.set, s.clear)
		}
	}
}

func TestP4_1OtherGapsAreNoBlanks(t *testing.T) {
	for _, s := range sayings {
		property, value, _ := strings.Cut(s.text, ":")
		for _, g := range gaps {
			for _, style := range []string{
				g + s.text, s.text + g, property + g + ":" + value, property + ":" + g + value,
				" " + g + " " + s.text, s.text + " " + g, property + " " + g + ":" + value, property + ": " + g + " " + value,
			} {
				wantParse(t, style, 0, 0)
			}
			if strings.Contains(value, " ") {
				wantParse(t, property+":"+strings.ReplaceAll(value, " ", g), 0, 0)
				wantParse(t, property+":"+strings.ReplaceAll(value, " ", " "+g+" "), 0, 0)
			}
		}
	}
}

func TestP4_1BlanksBetweenWords(t *testing.T) {
	for n := 1; n < 50; n++ {
		b := strings.Repeat(" ", n)
		wantParse(t, "text-decoration:underline"+b+"line-through", 12, 0)
		wantParse(t, "text-decoration:"+b+"line-through"+b+"line-through"+b, 8, 4)
		wantParse(t, "text-decoration:underline"+b+"none", 0, 0)
		wantParse(t, "font-weight:bo"+b+"ld", 0, 0)
		wantParse(t, "font-weight:nor"+b+"mal", 0, 0)
		wantParse(t, "font-weight:4"+b+"00", 0, 0)
		wantParse(t, "font"+b+"-weight:bold", 0, 0)
	}
}

func TestP4_1RowsOfWords(t *testing.T) {
	known := map[string]int{"underline": 4, "line-through": 8, "UnderLine": 4, "LINE-THROUGH": 8}
	all := []string{"underline", "line-through", "UnderLine", "LINE-THROUGH", "none", "x", "normal", "400"}
	for n := range len(all) * len(all) * len(all) * len(all) {
		var l []string
		set, ok := 0, true
		for m := n; m > 0; m /= len(all) {
			w := all[m%len(all)]
			l = append(l, w)
			ok = ok && known[w] != 0
			set |= known[w]
		}
		style := "text-decoration: " + strings.Join(l, " ")
		switch {
		case len(l) == 1 && l[0] == "none":
			wantParse(t, style, 0, 12)
		case ok && len(l) > 0:
			wantParse(t, style, set, 12-set)
		default:
			wantParse(t, style, 0, 0)
		}
	}
}

func TestP4_1EachByteAtEachPlace(t *testing.T) {
	styles := []string{"font-weight:bold;font-style:italic", "text-decoration: underline line-through", "font-weight: 700;text-decoration:none ;font-style:normal", "font-weight:bold; font-weight: 400 ;font-style:italic", "font-weight:700;font-weight:normal"}
	for _, s := range styles {
		for at := range len(s) + 1 {
			for b := range 256 {
				c := string([]byte{byte(b)})
				put := s[:at] + c + s[at:]
				set, clear := parsed(put)
				wantParse(t, put, set, clear)
				if at < len(s) {
					instead := s[:at] + c + s[at+1:]
					set, clear = parsed(instead)
					wantParse(t, instead, set, clear)
				}
			}
			set, clear := parsed(s[:at])
			wantParse(t, s[:at], set, clear)
			set, clear = parsed(s[at:])
			wantParse(t, s[at:], set, clear)
		}
	}
}

func TestP4_1OnlySemicolonsPart(t *testing.T) {
	for b := range 256 {
		want := 0
		if b == ';' {
			want = 3
		}
		wantParse(t, "font-weight:bold"+string([]byte{byte(b)})+"font-style:italic", want, 0)
	}
	for _, s := range []string{"font-weight:bold\u037Efont-style:italic", "font-weight\uFF1Abold", "font-weight\uA789bold", "font-weight:bold&#59;font-style:italic"} {
		set, clear := parsed(s)
		wantParse(t, s, set, clear)
	}
	wantParse(t, "x:\";font-weight:bold", 1, 0)
	wantParse(t, "x:(;font-weight:bold;)", 1, 0)
	wantParse(t, "/*;font-weight:bold;*/", 1, 0)
	wantParse(t, "{font-weight:bold}", 0, 0)
}

// ones are declarations that say something or nothing, as they may be written.
func ones() []string {
	l := []string{"", " ", ":", "color: red", "font-weight:600", "text-decoration: none underline", "font-style : ITALIC ", "Text-Decoration:  Line-Through", " font-weight:\tbold"}
	for _, s := range sayings {
		l = append(l, s.text)
	}
	return l
}

func TestP4_1LaterOnesGoAhead(t *testing.T) {
	l := ones()
	for _, a := range l {
		for _, b := range l {
			for _, c := range l {
				s := a + ";" + b + ";" + c
				set, clear := parsed(s)
				wantParse(t, s, set, clear)
			}
		}
	}
	wantParse(t, "font-weight:normal;font-weight:bold", 1, 0)
	wantParse(t, "font-weight:bold;font-weight:normal", 0, 1)
	wantParse(t, "font-weight:400;font-weight:bold", 1, 0)
	wantParse(t, "font-weight:400;font-weight:700", 1, 0)
	wantParse(t, "font-weight:bold;font-weight:400", 0, 1)
	wantParse(t, "font-weight:700;font-weight:400", 0, 1)
	wantParse(t, "font-style:italic;font-weight:400", 2, 1)
	wantParse(t, "font-weight:400;font-weight:600", 0, 1)
	wantParse(t, "font-weight:700;font-weight:600", 1, 0)
	wantParse(t, "text-decoration:none;text-decoration:line-through", 8, 4)
	wantParse(t, "text-decoration:line-through;text-decoration:none", 0, 12)
	wantParse(t, "text-decoration:underline line-through;text-decoration:line-through", 8, 4)
	wantParse(t, "font-weight:bold;font-style:italic;text-decoration:underline;font-style:normal;text-decoration:line-through", 9, 6)
}

func TestP4_1NumbersSayWhatTheirWordsSay(t *testing.T) {
	words := strings.NewReplacer("700", "bold", "400", "normal")
	for _, s := range []string{"font-weight:700", "font-weight:400", "FONT-WEIGHT : 400 ", " Font-Weight:  400;"} {
		for _, other := range ones() {
			for _, style := range []string{s + ";" + other, other + ";" + s} {
				set, clear := css.Parse(words.Replace(style))
				wantParse(t, style, set, clear)
			}
		}
	}
}

func TestP4_1OfNumbersTwoAlone(t *testing.T) {
	for n := -10; n < 10000; n++ {
		set, clear := 0, 0
		switch n {
		case 400:
			clear = api.Bold
		case 700:
			set = api.Bold
		}
		wantParse(t, "font-weight:"+strconv.Itoa(n), set, clear)
		wantParse(t, "font-style:"+strconv.Itoa(n), 0, 0)
		wantParse(t, "text-decoration:"+strconv.Itoa(n), 0, 0)
	}
}

func TestP4_1LongStyles(t *testing.T) {
	const n = 1 << 20
	wantParse(t, strings.Repeat(";", n), 0, 0)
	wantParse(t, strings.Repeat(":", n), 0, 0)
	wantParse(t, strings.Repeat(" ", n)+"font-weight"+strings.Repeat(" ", n)+":"+strings.Repeat(" ", n)+"bold"+strings.Repeat(" ", n), 1, 0)
	wantParse(t, "text-decoration:"+strings.Repeat("underline ", n/8)+strings.Repeat(" ", n)+"line-through", 12, 0)
	wantParse(t, "text-decoration:"+strings.Repeat("underline ", n/8)+"x", 0, 0)
	wantParse(t, strings.Repeat("font-weight:bold;font-weight:normal;", n/16), 0, 1)
	wantParse(t, strings.Repeat("font-weight:700;font-weight:400;", n/16), 0, 1)
	wantParse(t, "font-style:italic;"+strings.Repeat("x", n)+":"+strings.Repeat("\xff", n), 2, 0)
}

// numbers are all of the low bits, what is around them, and others whose low bits are of each kind.
func numbers() []int {
	l := []int{math.MinInt, math.MinInt + 5, math.MaxInt, math.MaxInt - 6, -1, -2, -16, 1 << 4, 1 << 31, 1<<31 + 9, 1<<32 + 3, 1 << 62}
	for n := range 40 {
		l = append(l, n)
	}
	return l
}

// printed puts the parts together by tables alone.
func printed(set, clear int) string {
	weight := [2][2]string{{"", "font-weight: normal"}, {"font-weight: bold", "font-weight: bold"}}
	style := [2][2]string{{"", "font-style: normal"}, {"font-style: italic", "font-style: italic"}}
	none := "text-decoration: none"
	one, other, both := "text-decoration: underline", "text-decoration: line-through", "text-decoration: underline line-through"
	decoration := [4][4]string{{"", none, none, none}, {one, one, one, one}, {other, other, other, other}, {both, both, both, both}}
	var l []string
	for _, part := range []string{weight[set&1][clear&1], style[set>>1&1][clear>>1&1], decoration[set>>2&3][clear>>2&3]} {
		if part != "" {
			l = append(l, part)
		}
	}
	return strings.Join(l, "; ")
}

func TestP4_2Print(t *testing.T) {
	for _, c := range []struct {
		set, clear int
		want       string
	}{
		{0, 0, ""},
		{1, 0, "font-weight: bold"},
		{0, 1, "font-weight: normal"},
		{1, 1, "font-weight: bold"},
		{2, 0, "font-style: italic"},
		{0, 2, "font-style: normal"},
		{2, 2, "font-style: italic"},
		{4, 0, "text-decoration: underline"},
		{4, 8, "text-decoration: underline"},
		{4, 12, "text-decoration: underline"},
		{8, 0, "text-decoration: line-through"},
		{8, 4, "text-decoration: line-through"},
		{12, 0, "text-decoration: underline line-through"},
		{12, 12, "text-decoration: underline line-through"},
		{0, 4, "text-decoration: none"},
		{0, 8, "text-decoration: none"},
		{0, 12, "text-decoration: none"},
		{3, 0, "font-weight: bold; font-style: italic"},
		{0, 3, "font-weight: normal; font-style: normal"},
		{9, 0, "font-weight: bold; text-decoration: line-through"},
		{15, 15, "font-weight: bold; font-style: italic; text-decoration: underline line-through"},
		{0, 15, "font-weight: normal; font-style: normal; text-decoration: none"},
		{8, 7, "font-weight: normal; font-style: normal; text-decoration: line-through"},
		{16, 32, ""},
		{-16, math.MinInt, ""},
		{-1, 0, "font-weight: bold; font-style: italic; text-decoration: underline line-through"},
		{0, math.MaxInt, "font-weight: normal; font-style: normal; text-decoration: none"},
	} {
		if got := css.Print(c.set, c.clear); got != c.want {
			t.Errorf("Print(%d, %d) = %q, want %q", c.set, c.clear, got, c.want)
		}
	}
}

func TestP4_2PrintOfAllBits(t *testing.T) {
	for _, set := range numbers() {
		for _, clear := range numbers() {
			if got, want := css.Print(set, clear), printed(set, clear); got != want {
				t.Errorf("Print(%d, %d) = %q, want %q", set, clear, got, want)
			}
		}
	}
}

func TestP4_2WhatIsSetCountsAsNotCleared(t *testing.T) {
	for _, set := range numbers() {
		for _, clear := range numbers() {
			if got, want := css.Print(set, clear), css.Print(set&api.AllBits, clear&api.AllBits&^set); got != want {
				t.Errorf("Print(%d, %d) = %q, want %q", set, clear, got, want)
			}
		}
	}
}

func TestP4_3Over(t *testing.T) {
	for _, c := range [][4]int{
		{0, 0, 0, 0}, {15, 0, 0, 15}, {15, 0, 15, 0}, {0, 15, 0, 15}, {0, 0, 15, 0}, {0, 5, 5, 5}, {5, 5, 5, 5},
		{5, 2, 1, 6}, {6, 8, 6, 8}, {1, 1, 0, 1}, {9, 4, 9, 4}, {16, 1, 0, 17}, {0, 16, 0, 16}, {48, 0, 16, 32},
		{-1, 0, 0, -1}, {-1, 0, 1, -2}, {0, -1, 0, -1}, {-1, 0, -1, 0}, {-1, 0, math.MinInt, math.MaxInt}, {math.MaxInt, math.MinInt, 0, -1}, {math.MinInt, 3, math.MinInt, 3},
	} {
		if got := css.Over(c[0], c[1], c[2]); got != c[3] {
			t.Errorf("Over(%d, %d, %d) = %d, want %d", c[0], c[1], c[2], got, c[3])
		}
	}
}

func TestP4_3OverBitByBit(t *testing.T) {
	for _, bits := range numbers() {
		for _, set := range numbers() {
			for _, clear := range numbers() {
				got := css.Over(bits, set, clear)
				for at := range 64 {
					want := bits >> at & 1
					if clear>>at&1 == 1 {
						want = 0
					}
					if set>>at&1 == 1 {
						want = 1
					}
					if got>>at&1 != want {
						t.Fatalf("Over(%d, %d, %d) = %d, whose bit %d is not %d", bits, set, clear, got, at, want)
					}
				}
			}
		}
	}
}

func TestP4_4ThereAndBack(t *testing.T) {
	for _, set := range numbers() {
		for _, clear := range numbers() {
			wantSet := set & api.AllBits
			wantClear := clear & api.AllBits &^ set
			if strokes := api.Underline | api.Strike; (wantSet|wantClear)&strokes != 0 {
				wantClear |= strokes &^ wantSet
			}
			wantParse(t, css.Print(set, clear), wantSet, wantClear)
		}
	}
}

func TestP4_4PrintedAgainItIsTheSame(t *testing.T) {
	for _, set := range numbers() {
		for _, clear := range numbers() {
			s := css.Print(set, clear)
			if got := css.Print(css.Parse(s)); got != s {
				t.Errorf("%q, parsed and printed, is %q", s, got)
			}
		}
	}
}

// styles are rows of declarations of up to two.
func styles() []string {
	l := ones()
	for _, a := range ones() {
		for _, b := range ones() {
			l = append(l, a+";"+b)
		}
	}
	return l
}

func TestP4_5TheSecondOverTheFirst(t *testing.T) {
	l := styles()
	for _, a := range l {
		firstSet, firstClear := css.Parse(a)
		for _, b := range l {
			nextSet, nextClear := css.Parse(b)
			set, clear := css.Parse(a + ";" + b)
			if want := firstSet&^nextClear | nextSet; set != want {
				t.Fatalf("Parse(%q) sets %d, want %d", a+";"+b, set, want)
			}
			if want := firstClear&^nextSet | nextClear; clear != want {
				t.Fatalf("Parse(%q) clears %d, want %d", a+";"+b, clear, want)
			}
		}
	}
}

func TestP4_5OfAllThatIsPrinted(t *testing.T) {
	for first := range 256 {
		a := css.Print(first>>4, first)
		for next := range 256 {
			b := css.Print(next>>4, next)
			firstSet, firstClear := css.Parse(a)
			nextSet, nextClear := css.Parse(b)
			wantParse(t, a+";"+b, css.Over(firstSet, nextSet, nextClear), css.Over(firstClear, nextClear, nextSet))
		}
	}
}

func TestP4_5NoBitIsBothSetAndCleared(t *testing.T) {
	some := 0
	for _, a := range styles() {
		for _, s := range []string{a, a + ";" + "font-weight:normal;text-decoration:underline", a + ";" + "font-weight:400;text-decoration:underline", "font-style:normal;text-decoration:none;" + a} {
			set, clear := css.Parse(s)
			if set&clear != 0 || set&^15 != 0 || clear&^15 != 0 {
				t.Errorf("Parse(%q) = %d, %d", s, set, clear)
			}
			if set != 0 && clear != 0 {
				some++
			}
		}
	}
	if some == 0 {
		t.Error("no style sets bits and clears others")
	}
}

func TestExamplesOfTwoProperties(t *testing.T) {
	wantParse(t, "font-weight: Bold; FONT-STYLE:italic", 3, 0)
}

func TestExamplesOfDecorations(t *testing.T) {
	wantParse(t, "text-decoration: line-through underline", 12, 0)
	wantParse(t, "text-decoration: underline", 4, 8)
}

func TestExamplesOfLaterOnesAndOfNothing(t *testing.T) {
	wantParse(t, "font-weight:bold;font-weight: normal", 0, 1)
	wantParse(t, "color: red; x; : ;font-weight: 600", 0, 0)
}

func TestExamplesOfPrint(t *testing.T) {
	if got, want := css.Print(5, 2), "font-weight: bold; font-style: normal; text-decoration: underline"; got != want {
		t.Errorf("Print(5, 2) = %q, want %q", got, want)
	}
}
