package tags_test

import (
	"math"
	"slices"
	"strings"
	"testing"

	"quillwork/api"
	"quillwork/tags"
)

// row is a row of the chapter's section Words: a tag, its names (its own one first), its class, and what may stand in it.
type row struct {
	tag   int
	names []string
	class int
	kids  []int
}

var (
	inBox  = []int{2, 3, 4, 5, 6, 7, 8}
	inList = []int{7, 8, 9}
	inLine = []int{0, 10, 11, 12, 13, 14, 15, 16}
	inLink = []int{0, 11, 12, 13, 14, 15, 16}
)

// rows is that table, written out by numbers.
var rows = []row{
	{0, nil, 1, nil},
	{1, []string{"div"}, 2, inBox},
	{2, []string{"p"}, 3, inLine},
	{3, []string{"h1"}, 3, inLine},
	{4, []string{"h2"}, 3, inLine},
	{5, []string{"h3"}, 3, inLine},
	{6, []string{"blockquote"}, 2, inBox},
	{7, []string{"ul"}, 2, inList},
	{8, []string{"ol"}, 2, inList},
	{9, []string{"li"}, 3, inLine},
	{10, []string{"a"}, 4, inLink},
	{11, []string{"b", "strong"}, 4, inLine},
	{12, []string{"i", "em"}, 4, inLine},
	{13, []string{"u", "ins"}, 4, inLine},
	{14, []string{"s", "strike", "del"}, 4, inLine},
	{15, []string{"span"}, 4, inLine},
	{16, []string{"br"}, 5, nil},
}

// noTags are numbers of none; some are a tag's once they are cut to fewer bits.
var noTags = []int{
	-1, -2, -16, -17, 17, 18, 100, 255, 256, 256 + 2, 1 << 16, 1<<16 + 7, 1 << 31, 1<<32 + 1, -1 << 31, -256 + 9,
	math.MaxInt, math.MaxInt - 1, math.MinInt, math.MinInt + 1, math.MaxInt32, math.MinInt32,
}

// someNumbers are all tags, what is around them, and the other numbers of none.
func someNumbers() []int {
	l := slices.Clone(noTags)
	for n := -300; n <= 300; n++ {
		l = append(l, n)
	}
	return l
}

// spellings are all ways of writing a name with letters great and small.
func spellings(name string) []string {
	all := []string{""}
	for i := range len(name) {
		var longer []string
		for _, s := range all {
			longer = append(longer, s+name[i:i+1])
			if up := strings.ToUpper(name[i : i+1]); up != name[i:i+1] {
				longer = append(longer, s+up)
			}
		}
		all = longer
	}
	return all
}

func TestP2_1NameAndClassOfEachTag(t *testing.T) {
	for _, r := range rows {
		want := ""
		if len(r.names) > 0 {
			want = r.names[0]
		}
		if got := tags.Name(r.tag); got != want {
			t.Errorf("Name(%d) = %q, want %q", r.tag, got, want)
		}
		if got := tags.Class(r.tag); got != r.class {
			t.Errorf("Class(%d) = %d, want %d", r.tag, got, r.class)
		}
	}
}

func TestP2_1NameAndClassOfWhatIsNoTag(t *testing.T) {
	for _, n := range someNumbers() {
		if n >= 0 && n <= 16 {
			continue
		}
		if got := tags.Name(n); got != "" {
			t.Errorf("Name(%d) = %q, want none", n, got)
		}
		if got := tags.Class(n); got != 0 {
			t.Errorf("Class(%d) = %d, want 0", n, got)
		}
	}
}

func TestP2_1FindEachNameHoweverItIsWritten(t *testing.T) {
	for _, r := range rows {
		for _, name := range r.names {
			for _, s := range spellings(name) {
				if got, ok := tags.Find(s); got != r.tag || !ok {
					t.Errorf("Find(%q) = %d, %v, want %d, true", s, got, ok, r.tag)
				}
			}
		}
	}
}

func TestP2_1FindNothing(t *testing.T) {
	none := []string{
		"", "x", " ", "\x00", "text", "#text", "h", "h0", "h4", "h11", "1", "q", "quote", "block", "blockquotes", "lis", "ull",
		"bold", "strongs", "stron", "emm", "insert", "delete", "strik", "striked", "font", "hr", "img", "pre", "body", "html",
		" p", "p ", "p\n", "p\x00", "\x00p", "<p>", "p,b", "b i", "d-iv", "p\xff", "\xffp",
		// What a folding by Unicode would take for s, k, i.
		"\u017F", "\u017Ftrong", "\u017Fpan", "in\u017F", "\u017Ftrike", "bloc\u212Aquote", "stri\u212Ae", "l\u0130", "\u0130", "l\u0131", "d\u0130v",
		// What stands beside A to Z and a to z, and beside them by one bit.
		"@", "[", "`", "{", "H\x11", "h\x11", "\x10", "\x02", "\"", "0", "!", "\xC1", "\xE1", "\uFF41", "\u0430",
		strings.Repeat("p", 1000), strings.Repeat("DIV", 3000),
	}
	for _, s := range none {
		if got, ok := tags.Find(s); got != 0 || ok {
			t.Errorf("Find(%q) = %d, %v, want 0, false", s, got, ok)
		}
	}
}

func TestP2_1FindShortTexts(t *testing.T) {
	known := map[string]int{}
	for _, r := range rows {
		for _, name := range r.names {
			for _, s := range spellings(name) {
				known[s] = r.tag
			}
		}
	}
	for a := range 256 {
		for b := range 257 {
			s := string([]byte{byte(a), byte(b)})
			if b == 256 {
				s = s[:1]
			}
			want, wanted := known[s]
			if got, ok := tags.Find(s); got != want || ok != wanted {
				t.Fatalf("Find(%q) = %d, %v, want %d, %v", s, got, ok, want, wanted)
			}
		}
	}
}

func TestP2_2MayOfEachPair(t *testing.T) {
	for _, r := range rows {
		for _, kid := range someNumbers() {
			want := slices.Contains(r.kids, kid)
			if got := tags.May(r.tag, kid); got != want {
				t.Errorf("May(%d, %d) = %v, want %v", r.tag, kid, got, want)
			}
		}
	}
}

func TestP2_2NothingMayStandInWhatIsNoTag(t *testing.T) {
	all := someNumbers()
	for _, parent := range all {
		if parent >= 0 && parent <= 16 {
			continue
		}
		for _, kid := range all {
			if tags.May(parent, kid) {
				t.Errorf("May(%d, %d) = true", parent, kid)
			}
		}
	}
}

func TestP2_2Heading(t *testing.T) {
	want := map[int]int{api.TagH1: 1, api.TagH2: 2, api.TagH3: 3}
	for _, n := range someNumbers() {
		if got := tags.Heading(n); got != want[n] {
			t.Errorf("Heading(%d) = %d, want %d", n, got, want[n])
		}
	}
}

func TestP2_2Line(t *testing.T) {
	known := map[int]int{0: api.TagP, 1: api.TagH1, 2: api.TagH2, 3: api.TagH3}
	for _, n := range someNumbers() {
		want, wanted := known[n]
		if got, ok := tags.Line(n); got != want || ok != wanted {
			t.Errorf("Line(%d) = %d, %v, want %d, %v", n, got, ok, want, wanted)
		}
	}
}

func TestP2_2LineAndHeadingThereAndBack(t *testing.T) {
	for kind := range 4 {
		if tag, _ := tags.Line(kind); tags.Heading(tag) != kind || tags.Class(tag) != api.ClassLine {
			t.Errorf("Line(%d) = %d: a heading %d of class %d", kind, tag, tags.Heading(tag), tags.Class(tag))
		}
	}
}

func TestP2_2TagsOfEachRowOfClasses(t *testing.T) {
	for _, c := range []struct {
		classes []int
		want    []int
	}{
		{nil, nil},
		{[]int{}, nil},
		{[]int{api.ClassNone}, nil},
		{[]int{6}, nil},
		{[]int{-1, 17, math.MaxInt, math.MinInt}, nil},
		{[]int{api.ClassText}, []int{0}},
		{[]int{api.ClassBox}, []int{1, 6, 7, 8}},
		{[]int{api.ClassLine}, []int{2, 3, 4, 5, 9}},
		{[]int{api.ClassInline}, []int{10, 11, 12, 13, 14, 15}},
		{[]int{api.ClassVoid}, []int{16}},
		{[]int{api.ClassVoid, api.ClassText}, []int{0, 16}},
		{[]int{api.ClassLine, api.ClassBox}, []int{1, 2, 3, 4, 5, 6, 7, 8, 9}},
		{[]int{api.ClassVoid, api.ClassVoid, api.ClassNone, api.ClassVoid}, []int{16}},
		{[]int{5, 4, 3, 2, 1, 0}, []int{0, 1, 2, 3, 4, 5, 6, 7, 8, 9, 10, 11, 12, 13, 14, 15, 16}},
		{[]int{9, 3, -3, 1}, []int{0, 2, 3, 4, 5, 9}},
	} {
		before := slices.Clone(c.classes)
		if got := tags.Tags(c.classes...); !slices.Equal(got, c.want) {
			t.Errorf("Tags(%v) = %v, want %v", c.classes, got, c.want)
		}
		if !slices.Equal(c.classes, before) {
			t.Errorf("Tags has changed its argument: %v, ahead %v", c.classes, before)
		}
	}
	if got := tags.Tags(); len(got) != 0 {
		t.Errorf("Tags() = %v, want none", got)
	}
}

func TestP2_2TagsOfEverySetOfClasses(t *testing.T) {
	for set := range 1 << 6 {
		var classes []int
		for c := 5; c >= 0; c-- {
			if set>>c&1 == 1 {
				classes = append(classes, c)
			}
		}
		var want []int
		for _, r := range rows {
			if set>>r.class&1 == 1 {
				want = append(want, r.tag)
			}
		}
		if got := tags.Tags(classes...); !slices.Equal(got, want) {
			t.Errorf("Tags(%v) = %v, want %v", classes, got, want)
		}
	}
}

func TestP2_2TagsAreNewMemory(t *testing.T) {
	classes := []int{api.ClassBox, api.ClassVoid}[:1]
	first := tags.Tags(classes...)
	first[0] = 99
	_ = append(first, 98)
	if got := tags.Tags(classes...); !slices.Equal(got, []int{1, 6, 7, 8}) {
		t.Errorf("an answer hangs on an earlier one: %v", got)
	}
	if got := classes[:2]; !slices.Equal(got, []int{api.ClassBox, api.ClassVoid}) {
		t.Errorf("the room of the argument has changed: %v", got)
	}
}

func TestP2_3OwnNamesFindTheirElements(t *testing.T) {
	for tag := api.TagDiv; tag <= api.TagBr; tag++ {
		if got, ok := tags.Find(tags.Name(tag)); got != tag || !ok {
			t.Errorf("Find(Name(%d)) = %d, %v", tag, got, ok)
		}
	}
}

func TestP2_3NoNameFindsAText(t *testing.T) {
	names := []string{tags.Name(api.TagText), "text", "Text", "TEXT", "#text", "none", "0", "\x00"}
	for _, r := range rows {
		names = append(names, r.names...)
	}
	for _, s := range names {
		if got, ok := tags.Find(s); ok && got == api.TagText {
			t.Errorf("Find(%q) finds a text", s)
		}
	}
}

func TestP2_4Content(t *testing.T) {
	for parent := -2; parent <= 18; parent++ {
		for kid := -2; kid <= 18; kid++ {
			if !tags.May(parent, kid) {
				continue
			}
			switch tags.Class(parent) {
			case api.ClassText, api.ClassVoid:
				t.Errorf("%d may stand in %d, a text or a void", kid, parent)
			case api.ClassLine, api.ClassInline:
				if c := tags.Class(kid); c == api.ClassLine || c == api.ClassBox {
					t.Errorf("%d, a line or a box, may stand in %d, a line or an inline", kid, parent)
				}
			}
			if kid == api.TagDiv {
				t.Errorf("div may stand in %d", parent)
			}
		}
	}
}

func TestP2_4ParagraphsAndItemsHoldTheSame(t *testing.T) {
	some := 0
	for _, kid := range someNumbers() {
		p := tags.May(api.TagP, kid)
		if li := tags.May(api.TagLi, kid); p != li {
			t.Errorf("May(p, %d) = %v, May(li, %d) = %v", kid, p, kid, li)
		}
		if p {
			some++
		}
	}
	if some == 0 {
		t.Error("nothing may stand in p")
	}
}

func TestExamplesOfName(t *testing.T) {
	for tag, want := range map[int]string{api.TagQuote: "blockquote", 0: "", 17: ""} {
		if got := tags.Name(tag); got != want {
			t.Errorf("Name(%d) = %q, want %q", tag, got, want)
		}
	}
}

func TestExamplesOfFind(t *testing.T) {
	if got, ok := tags.Find("STRONG"); got != 11 || !ok {
		t.Errorf(`Find("STRONG") = %d, %v`, got, ok)
	}
	for _, s := range []string{"x", ""} {
		if got, ok := tags.Find(s); got != 0 || ok {
			t.Errorf("Find(%q) = %d, %v", s, got, ok)
		}
	}
}

func TestExamplesOfMay(t *testing.T) {
	for pair, want := range map[[2]int]bool{
		{api.TagUl, api.TagLi}: true,
		{api.TagP, api.TagUl}:  false,
		{api.TagA, api.TagA}:   false,
		{api.TagB, api.TagA}:   true,
	} {
		if got := tags.May(pair[0], pair[1]); got != want {
			t.Errorf("May(%d, %d) = %v, want %v", pair[0], pair[1], got, want)
		}
	}
}

func TestExamplesOfLineAndHeading(t *testing.T) {
	if got, ok := tags.Line(2); got != 4 || !ok {
		t.Errorf("Line(2) = %d, %v", got, ok)
	}
	if got, ok := tags.Line(4); got != 0 || ok {
		t.Errorf("Line(4) = %d, %v", got, ok)
	}
	if h2, p := tags.Heading(api.TagH2), tags.Heading(api.TagP); h2 != 2 || p != 0 {
		t.Errorf("Heading of h2 and p: %d, %d", h2, p)
	}
}

func TestExamplesOfTags(t *testing.T) {
	if got := tags.Tags(api.ClassVoid); !slices.Equal(got, []int{16}) {
		t.Errorf("Tags(ClassVoid) = %v", got)
	}
	if got := tags.Tags(api.ClassBox); !slices.Equal(got, []int{1, 6, 7, 8}) {
		t.Errorf("Tags(ClassBox) = %v", got)
	}
}
