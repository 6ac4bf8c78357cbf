package attrs_test

import (
	"fmt"
	"slices"
	"strings"
	"testing"

	"quillwork/api"
	"quillwork/attrs"
	"quillwork/chars"
)

// row makes attributes of names and values by turns.
func row(parts ...string) []api.Attr {
	var l []api.Attr
	for i := 0; i+1 < len(parts); i += 2 {
		l = append(l, api.Attr{Name: parts[i], Value: parts[i+1]})
	}
	return l
}

// rows are rows that may be, and such as may not.
func rows() [][]api.Attr {
	return [][]api.Attr{
		nil,
		{},
		row("a", "1"),
		row("a", "1", "b", "2"),
		row("b", "2", "a", "1"),
		row("a", "1", "a", "2"),
		row("a", "1", "b", "2", "a", "3", "b", "4", "a", "1"),
		row("href", "x", "class", "", "style", "font-weight: bold", "data-x", "ñ"),
		row("", "1"),
		row("", "", "A", "1", "a", "2"),
		row("1a", "1", "a b", "\n", "a", "\xff"),
		row("a", "1", "", "\x00", "c", strings.Repeat("x", 300)),
	}
}

// names are some that may be, and some that may not.
var names = []string{"a", "b", "c", "href", "class", "style", "data-x", "x-", "z9", "", "A", "1a", "a b", "-", "ñ", "\xff", "aa", "abcdefghijklmnopq"}

// values likewise.
var values = []string{"", "1", " ", "x y", "ñ", "\u00A0", "\uFFFD", "😀", "\n", "\t", "\x00", "\x7f", "\xff", "a\xc3", strings.Repeat("v", 200), strings.Repeat("v", 201)}

func TestP3_1NameOfEachByteAtEachPlace(t *testing.T) {
	const first = "abcdefghijklmnopqrstuvwxyz"
	const next = first + "0123456789-"
	for b := range 256 {
		c := string([]byte{byte(b)})
		for s, want := range map[string]bool{
			c:                     strings.Contains(first, c),
			c + "a":               strings.Contains(first, c),
			c + "9-":              strings.Contains(first, c),
			"a" + c:               strings.Contains(next, c),
			"q-" + c + "z":        strings.Contains(next, c),
			"abcdefghijklmno" + c: strings.Contains(next, c),
		} {
			if got := attrs.Name(s); got != want {
				t.Errorf("Name(%q) = %v, want %v", s, got, want)
			}
		}
	}
}

func TestP3_1NameByItsLength(t *testing.T) {
	for n := range 300 {
		for _, c := range []string{"a", "z"} {
			s := strings.Repeat(c, n)
			if got, want := attrs.Name(s), n >= 1 && n <= 16; got != want {
				t.Errorf("Name of %d letters = %v, want %v", n, got, want)
			}
			if got, want := attrs.Name("m"+strings.Repeat("-", n)), n <= 15; got != want {
				t.Errorf("Name of m and %d - = %v, want %v", n, got, want)
			}
		}
	}
}

func TestP3_1NameHasNoOtherLetters(t *testing.T) {
	for _, s := range []string{"ñ", "añ", "\u017F", "a\u017F", "\u212A", "a\u212A", "a\u0660", "a\uFF11", "\uFF41", "a\u2010", "a\uFFFD", "a\xe1", "a\u0161", "a\u0130"} {
		if attrs.Name(s) {
			t.Errorf("Name(%q) = true", s)
		}
	}
}

func TestP3_1ValueOfEachCharacter(t *testing.T) {
	for c := rune(0); c <= 0x10FFFF; c++ {
		if c >= 0xD800 && c <= 0xDFFF {
			continue
		}
		want := chars.May(c)
		for _, s := range []string{string(c), "a" + string(c), string(c) + "b"} {
			if got := attrs.Value(s); got != want {
				t.Fatalf("Value(%q) = %v, want %v", s, got, want)
			}
		}
	}
}

func TestP3_1ValueByItsLength(t *testing.T) {
	for n := range 600 {
		for _, c := range []string{"a", " ", "ñ", "\u2003", "\uFFFD", "😀"} {
			s := strings.Repeat(c, n)
			if got, want := attrs.Value(s), n*len(c) <= 200; got != want {
				t.Errorf("Value of %d times %q = %v, want %v", n, c, got, want)
			}
		}
	}
	for s, want := range map[string]bool{
		strings.Repeat("a", 198) + "ñ":      true,
		strings.Repeat("a", 199) + "ñ":      false,
		strings.Repeat("a", 196) + "😀":      true,
		strings.Repeat("a", 197) + "😀":      false,
		strings.Repeat("a", 199) + "\n":     false,
		"\x00" + strings.Repeat("a", 199):   false,
		strings.Repeat("a", 1<<20):          false,
		strings.Repeat("\u00A0", 100):       true,
		strings.Repeat("\u00A0", 100) + " ": false,
	} {
		if got := attrs.Value(s); got != want {
			t.Errorf("Value of %d bytes = %v, want %v", len(s), got, want)
		}
	}
}

func TestP3_1ValueIsUTF8(t *testing.T) {
	for _, s := range []string{"\xff", "\x80", "a\xff", "\xffa", "a\xc3", "\xe2\x82", "\xed\xa0\x80", "\xc0\x80", "\xf4\x90\x80\x80", "é\xa9", strings.Repeat("\xff", 66), strings.Repeat("\xff", 200)} {
		if attrs.Value(s) || attrs.Target(s) || attrs.May(row("a", s)) {
			t.Errorf("%q is a value", s)
		}
	}
}

// targets tells of texts whether they are targets.
var targets = map[string]bool{
	"":                    false,
	"x":                   true,
	"http://x":            true,
	"http://x/ y":         true,
	" ":                   false,
	"  ":                  false,
	" x":                  false,
	"x ":                  false,
	" x ":                 false,
	"x y":                 true,
	"\u00A0":              true,
	"\u00A0x\u00A0":       true,
	"\u2003x\u2003":       true,
	"ñ":                   true,
	":":                   true,
	"::":                  true,
	":x":                  true,
	"x:":                  true,
	": ":                  false,
	"#":                   true,
	"\n":                  false,
	"x\n":                 false,
	"\tx":                 false,
	"x\x00y":              false,
	"javascript":          false,
	"JAVASCRIPT":          false,
	"JavaScript":          false,
	"javascripT":          false,
	"Javascript":          false,
	"javascript:":         false,
	"javascript::":        false,
	"javascript:x":        false,
	"JavaScript:x":        false,
	"jAvAsCrIpT:alert(1)": false,
	"javascript:x:y":      false,
	"javascript: x":       false,
	"javascript :x":       true,
	"java script:x":       true,
	"javascript/x":        true,
	"javascript/x:y":      true,
	"javascripts":         true,
	"javascripts:x":       true,
	"javascrip:x":         true,
	"avascript:x":         true,
	"xjavascript:x":       true,
	"x:javascript":        true,
	"x:javascript:y":      true,
	":javascript:":        true,
	"livescript:x":        true,
	"javascript\u00A0:x":  true,
	"\u00A0javascript:x":  true,
	// What a folding by Unicode would take for s, i.
	"java\u017Fcript:x":     true,
	"JAVA\u017FCRIPT":       true,
	"JAVASCR\u0130PT:x":     true,
	"javascr\u0131pt:x":     true,
	"javascript\uFF1Ax":     true,
	"\uFF4Aavascript:x":     true,
	"j\u0430vascript:x":     true,
	"javascr\u0130pt":       true,
	"java\u017Fcript":       true,
	"JAVASCR\u0130PT\u0130": true,
}

func TestP3_1Target(t *testing.T) {
	for s, want := range targets {
		if got := attrs.Target(s); got != want {
			t.Errorf("Target(%q) = %v, want %v", s, got, want)
		}
	}
}

func TestP3_1TargetHoweverItsLettersAreWritten(t *testing.T) {
	const script = "javascript"
	for set := range 1 << len(script) {
		s := ""
		for i := range len(script) {
			c := script[i : i+1]
			if set>>i&1 == 1 {
				c = strings.ToUpper(c)
			}
			s += c
		}
		if attrs.Target(s) || attrs.Target(s+":x") {
			t.Fatalf("%q is a target", s)
		}
		if !attrs.Target(s+"x:") || !attrs.Target("x"+s) {
			t.Fatalf("%q, and x behind it, or ahead, is none", s)
		}
	}
	for i := range len(script) {
		for b := range 128 {
			c := string(rune(b))
			s := script[:i] + c + script[i+1:] + ":x"
			want := chars.May(rune(b)) && !strings.EqualFold(c, script[i:i+1]) && !(i == 0 && c == " ")
			if got := attrs.Target(s); got != want {
				t.Errorf("Target(%q) = %v, want %v", s, got, want)
			}
		}
	}
}

func TestP3_1TargetByItsLength(t *testing.T) {
	for n := range 300 {
		if got, want := attrs.Target(strings.Repeat("x", n)), n >= 1 && n <= 200; got != want {
			t.Errorf("Target of %d letters = %v, want %v", n, got, want)
		}
		if got, want := attrs.Target(strings.Repeat("ñ", n)), n >= 1 && n <= 100; got != want {
			t.Errorf("Target of %d times ñ = %v, want %v", n, got, want)
		}
	}
}

func TestP3_1May(t *testing.T) {
	for i, c := range []struct {
		l    []api.Attr
		want bool
	}{
		{nil, true},
		{[]api.Attr{}, true},
		{row("a", ""), true},
		{row("a", "1"), true},
		{row("a", "1", "b", "1"), true},
		{row("a", "1", "a", "1"), false},
		{row("a", "1", "a", "2"), false},
		{row("a", "1", "b", "2", "a", "3"), false},
		{row("a", "1", "b", "2", "b", "3"), false},
		{row("b", "1", "a", "2", "c", "3", "d", "4"), true},
		{row("", ""), false},
		{row("A", ""), false},
		{row("a", "", "A", ""), false},
		{row("a", "", "", ""), false},
		{row("a", "\n"), false},
		{row("a", "", "b", "\x00"), false},
		{row("a", "\x7f", "b", ""), false},
		{row("abcdefghijklmnop", "\u00A0"), true},
		{row("abcdefghijklmnopq", "\u00A0"), false},
		{row("a", strings.Repeat("x", 200)), true},
		{row("a", strings.Repeat("x", 201)), false},
		{row("href", "javascript:x"), true},
		{row("href", " x"), true},
	} {
		if got := attrs.May(c.l); got != c.want {
			t.Errorf("%d: May(%v) = %v, want %v", i, c.l, got, c.want)
		}
	}
}

func TestP3_1MayOfLongRows(t *testing.T) {
	var l []api.Attr
	for i := range 100000 {
		l = append(l, api.Attr{Name: fmt.Sprintf("a%d", i), Value: "x"})
	}
	if !attrs.May(l) {
		t.Error("a long row may not be")
	}
	if attrs.May(append(l, l[0])) {
		t.Error("a long row may be, whose last name is its first one")
	}
}

func TestP3_1MayIsNamesAndValues(t *testing.T) {
	for _, n := range names {
		for _, v := range values {
			if got, want := attrs.May(row(n, v)), attrs.Name(n) && attrs.Value(v); got != want {
				t.Errorf("May(%q = %q) = %v, want %v", n, v, got, want)
			}
		}
	}
}

func TestP3_2Get(t *testing.T) {
	long := strings.Repeat("x", 300)
	for i, c := range []struct {
		l    []api.Attr
		name string
		want string
		ok   bool
	}{
		{nil, "a", "", false},
		{nil, "", "", false},
		{row("a", "1"), "a", "1", true},
		{row("a", "1"), "b", "", false},
		{row("a", "1"), "A", "", false},
		{row("a", "1"), "", "", false},
		{row("a", ""), "a", "", true},
		{row("a", "1", "b", "2"), "b", "2", true},
		{row("a", "1", "a", "2"), "a", "1", true},
		{row("b", "0", "a", "1", "a", "2"), "a", "1", true},
		{row("a", "1", "", "2"), "", "2", true},
		{row("A", "1", "a", "2"), "a", "2", true},
		{row("A", "1", "a", "2"), "A", "1", true},
		{row("a b", "\n"), "a b", "\n", true},
		{row("a", long), "a", long, true},
		{row("\xff", "\xfe"), "\xff", "\xfe", true},
		{row("\xff", "\xfe"), "\uFFFD", "", false},
		{row("aa", "1"), "a", "", false},
		{row("a", "1"), "aa", "", false},
	} {
		if got, ok := attrs.Get(c.l, c.name); got != c.want || ok != c.ok {
			t.Errorf("%d: Get(%q, %q) = %q, %v, want %q, %v", i, c.l, c.name, got, ok, c.want, c.ok)
		}
	}
}

func TestP3_3Put(t *testing.T) {
	for i, c := range []struct {
		l           []api.Attr
		name, value string
		want        []api.Attr
		err         api.Errno
	}{
		{nil, "a", "1", row("a", "1"), api.OK},
		{nil, "a", "", row("a", ""), api.OK},
		{[]api.Attr{}, "a", "1", row("a", "1"), api.OK},
		{row("a", "1"), "a", "2", row("a", "2"), api.OK},
		{row("a", "1"), "a", "1", row("a", "1"), api.OK},
		{row("a", "1"), "a", "", row("a", ""), api.OK},
		{row("a", "1"), "b", "2", row("a", "1", "b", "2"), api.OK},
		{row("b", "1"), "a", "2", row("b", "1", "a", "2"), api.OK},
		{row("b", "1", "a", "2", "c", "3"), "a", "4", row("b", "1", "a", "4", "c", "3"), api.OK},
		{row("b", "1", "a", "2", "c", "3"), "c", "4", row("b", "1", "a", "2", "c", "4"), api.OK},
		{row("a", "1", "a", "2"), "a", "3", row("a", "3", "a", "2"), api.OK},
		{row("A", "1"), "a", "2", row("A", "1", "a", "2"), api.OK},
		{row("", "\x00", "a", "\n"), "a", "2", row("", "\x00", "a", "2"), api.OK},
		{row("", "\x00"), "b", "2", row("", "\x00", "b", "2"), api.OK},
		{nil, "abcdefghijklmnop", "1", row("abcdefghijklmnop", "1"), api.OK},
		{nil, "abcdefghijklmnopq", "1", nil, api.ErrArg},
		{nil, "", "1", nil, api.ErrArg},
		{row("", "1"), "", "1", nil, api.ErrArg},
		{row("A", "1"), "A", "1", nil, api.ErrArg},
		{row("a", "1"), "-a", "1", nil, api.ErrArg},
		{row("a", "1"), "a", "\n", nil, api.ErrArg},
		{row("a", "1"), "b", "\x7f", nil, api.ErrArg},
		{row("a", "1"), "b", strings.Repeat("x", 201), nil, api.ErrArg},
		{row("a", "1"), "b", strings.Repeat("x", 200), row("a", "1", "b", strings.Repeat("x", 200)), api.OK},
		{row("a", "1"), "href", "javascript:x", row("a", "1", "href", "javascript:x"), api.OK},
		{row("a", "1"), "href", " ", row("a", "1", "href", " "), api.OK},
	} {
		got, err := attrs.Put(c.l, c.name, c.value)
		if err != c.err || !slices.Equal(got, c.want) {
			t.Errorf("%d: Put(%q, %q, %q) = %q, %d, want %q, %d", i, c.l, c.name, c.value, got, err, c.want, c.err)
		}
	}
}

func TestP3_3PutAnswersByNameAndValue(t *testing.T) {
	for _, l := range rows() {
		for _, n := range names {
			for _, v := range values {
				got, err := attrs.Put(l, n, v)
				if !attrs.Name(n) || !attrs.Value(v) {
					if err != api.ErrArg || len(got) != 0 {
						t.Errorf("Put(%q, %q, %q) = %q, %d", l, n, v, got, err)
					}
					continue
				}
				if err != api.OK {
					t.Errorf("Put(%q, %q, %q) answers %d", l, n, v, err)
				}
			}
		}
	}
}

func TestP3_3Drop(t *testing.T) {
	for i, c := range []struct {
		l    []api.Attr
		name string
		want []api.Attr
		err  api.Errno
	}{
		{nil, "a", nil, api.ErrNone},
		{nil, "", nil, api.ErrNone},
		{row("a", "1"), "b", nil, api.ErrNone},
		{row("a", "1"), "A", nil, api.ErrNone},
		{row("a", "1"), "", nil, api.ErrNone},
		{row("a", "1"), "1a", nil, api.ErrNone},
		{row("a", "1"), "a", nil, api.OK},
		{row("a", "1", "b", "2"), "a", row("b", "2"), api.OK},
		{row("a", "1", "b", "2"), "b", row("a", "1"), api.OK},
		{row("a", "1", "b", "2", "c", "3"), "b", row("a", "1", "c", "3"), api.OK},
		{row("a", "1", "b", "2", "a", "3"), "a", row("b", "2", "a", "3"), api.OK},
		{row("a", "1", "a", "1"), "a", row("a", "1"), api.OK},
		{row("a", "1", "", "\n"), "", row("a", "1"), api.OK},
		{row("A b", "1", "a", "\n"), "A b", row("a", "\n"), api.OK},
		{row("\xff", "1"), "\xff", nil, api.OK},
		{row("\xff", "1"), "\xfe", nil, api.ErrNone},
	} {
		got, err := attrs.Drop(c.l, c.name)
		if err != c.err || !slices.Equal(got, c.want) {
			t.Errorf("%d: Drop(%q, %q) = %q, %d, want %q, %d", i, c.l, c.name, got, err, c.want, c.err)
		}
	}
}

func TestP3_4Only(t *testing.T) {
	l := row("a", "1", "b", "2", "a", "3", "", "\x00", "C", "4")
	for i, c := range []struct {
		names []string
		want  []api.Attr
	}{
		{nil, nil},
		{[]string{}, nil},
		{[]string{"x"}, nil},
		{[]string{"A", "c"}, nil},
		{[]string{"a"}, row("a", "1", "a", "3")},
		{[]string{"b"}, row("b", "2")},
		{[]string{"b", "a"}, row("a", "1", "b", "2", "a", "3")},
		{[]string{"b", "x", "b"}, row("b", "2")},
		{[]string{""}, row("", "\x00")},
		{[]string{"C", ""}, row("", "\x00", "C", "4")},
		{[]string{"C", "", "b", "a"}, l},
	} {
		if got := attrs.Only(l, c.names...); !slices.Equal(got, c.want) {
			t.Errorf("%d: Only(%q, %q) = %q, want %q", i, l, c.names, got, c.want)
		}
		if got := attrs.Only(nil, c.names...); len(got) != 0 {
			t.Errorf("%d: Only(none, %q) = %q", i, c.names, got)
		}
	}
	if got := attrs.Only(l); len(got) != 0 {
		t.Errorf("Only of no names = %q", got)
	}
}

func TestP3_4Same(t *testing.T) {
	for i, a := range rows() {
		for j, b := range rows() {
			want := i == j || len(a) == 0 && len(b) == 0
			if got := attrs.Same(a, b); got != want {
				t.Errorf("Same(%q, %q) = %v, want %v", a, b, got, want)
			}
		}
	}
	for i, c := range []struct{ a, b []api.Attr }{
		{row("a", "1"), row("a", "2")},
		{row("a", "1"), row("b", "1")},
		{row("a", "1"), row("A", "1")},
		{row("a", ""), nil},
		{row("", ""), nil},
		{row("a", "1", "b", "2"), row("a", "1")},
		{row("a", "1", "b", "2"), row("b", "2", "a", "1")},
		{row("a", "\xff"), row("a", "\uFFFD")},
		{row("ab", "c"), row("a", "bc")},
	} {
		if attrs.Same(c.a, c.b) || attrs.Same(c.b, c.a) {
			t.Errorf("%d: %q and %q are the same", i, c.a, c.b)
		}
	}
}

// withRoom is the row with three more behind its end, which nobody may change.
func withRoom(l []api.Attr) []api.Attr {
	return append(slices.Clone(l), row("room1", "1", "room2", "2", "a", "3")...)[:len(l)]
}

// all tells the row with what is behind its end.
func all(l []api.Attr) []api.Attr { return slices.Clone(l[:cap(l)]) }

// spoil writes over what was answered, and over the room behind it.
func spoil(l []api.Attr) {
	l = l[:cap(l)]
	for i := range l {
		l[i] = api.Attr{Name: "spoilt", Value: "spoilt"}
	}
}

func TestP3_5WhatIsHandedInStays(t *testing.T) {
	for _, given := range rows() {
		l := withRoom(given)
		before := all(l)
		for _, n := range names {
			wanted := append([]string{n, "a"}, "room1", "b")[:2]
			calls := []func() []api.Attr{
				func() []api.Attr { r, _ := attrs.Put(l, n, "new"); return r },
				func() []api.Attr { r, _ := attrs.Drop(l, n); return r },
				func() []api.Attr { return attrs.Only(l, n, "b", "a") },
				func() []api.Attr { return attrs.Only(l, wanted...) },
				func() []api.Attr { attrs.Get(l, n); attrs.May(l); attrs.Same(l, l); return nil },
			}
			for i, call := range calls {
				first := call()
				kept := slices.Clone(first)
				second := call()
				spoil(first)
				if !slices.Equal(all(l), before) {
					t.Fatalf("call %d with %q has changed %q to %q", i, n, before, all(l))
				}
				if !slices.Equal(second, kept) || !slices.Equal(call(), kept) {
					t.Fatalf("call %d with %q: an answer hangs on another one", i, n)
				}
			}
			if !slices.Equal(wanted[:4], []string{n, "a", "room1", "b"}) {
				t.Fatalf("Only has changed its names: %q", wanted[:4])
			}
		}
	}
}

func TestP3_5AnswersDoNotFollowTheirArguments(t *testing.T) {
	l := row("a", "1", "b", "2", "c", "3")
	put, _ := attrs.Put(l, "a", "9")
	behind, _ := attrs.Put(l, "d", "4")
	dropped, _ := attrs.Drop(l, "a")
	last, _ := attrs.Drop(l, "c")
	only := attrs.Only(l, "a", "b", "c")
	spoil(l)
	for i, c := range []struct{ got, want []api.Attr }{
		{put, row("a", "9", "b", "2", "c", "3")},
		{behind, row("a", "1", "b", "2", "c", "3", "d", "4")},
		{dropped, row("b", "2", "c", "3")},
		{last, row("a", "1", "b", "2")},
		{only, row("a", "1", "b", "2", "c", "3")},
	} {
		if !slices.Equal(c.got, c.want) {
			t.Errorf("%d: %q, want %q", i, c.got, c.want)
		}
	}
}

func TestP3_6WhatWasPutIsGot(t *testing.T) {
	for _, l := range rows() {
		for _, n := range names {
			for _, v := range values {
				r, err := attrs.Put(l, n, v)
				if err != api.OK {
					continue
				}
				if got, ok := attrs.Get(r, n); got != v || !ok {
					t.Errorf("Get(Put(%q, %q, %q)) = %q, %v", l, n, v, got, ok)
				}
				for _, other := range append(slices.Clone(names), "room1") {
					if other == n {
						continue
					}
					was, had := attrs.Get(l, other)
					if got, ok := attrs.Get(r, other); got != was || ok != had {
						t.Errorf("Put(%q, %q, %q): %q was %q, %v, and is %q, %v", l, n, v, other, was, had, got, ok)
					}
				}
				if attrs.May(l) && !attrs.May(r) {
					t.Errorf("Put(%q, %q, %q) may not be", l, n, v)
				}
			}
		}
	}
}

func TestP3_6DroppedAgain(t *testing.T) {
	some := 0
	for _, l := range rows() {
		for _, n := range names {
			r, err := attrs.Put(l, n, "v")
			if _, had := attrs.Get(l, n); had || err != api.OK {
				continue
			}
			some++
			if back, err := attrs.Drop(r, n); err != api.OK || !attrs.Same(back, l) {
				t.Errorf("Drop(Put(%q, %q)) = %q, %d", l, n, back, err)
			}
		}
	}
	if some == 0 {
		t.Error("nothing was put behind")
	}
}

func TestP3_6DropLeavesAllOthers(t *testing.T) {
	for _, l := range rows() {
		for _, a := range l {
			r, err := attrs.Drop(l, a.Name)
			if err != api.OK || len(r) != len(l)-1 {
				t.Errorf("Drop(%q, %q) = %q, %d", l, a.Name, r, err)
			}
			for _, other := range names {
				was, had := attrs.Get(l, other)
				if got, ok := attrs.Get(r, other); other != a.Name && (got != was || ok != had) {
					t.Errorf("Drop(%q, %q): %q was %q, %v, and is %q, %v", l, a.Name, other, was, had, got, ok)
				}
			}
			if attrs.May(l) && !attrs.May(r) {
				t.Errorf("Drop(%q, %q) may not be", l, a.Name)
			}
		}
	}
}

func TestExamplesOfName(t *testing.T) {
	for s, want := range map[string]bool{"data-x": true, "1a": false, "": false, strings.Repeat("a", 17): false} {
		if got := attrs.Name(s); got != want {
			t.Errorf("Name(%q) = %v", s, got)
		}
	}
}

func TestExamplesOfTarget(t *testing.T) {
	for s, want := range map[string]bool{"http://x": true, " x": false, "JavaScript:x": false, "javascript": false} {
		if got := attrs.Target(s); got != want {
			t.Errorf("Target(%q) = %v", s, got)
		}
	}
}

func TestExamplesOfPut(t *testing.T) {
	if got, err := attrs.Put(row("a", "1"), "a", "2"); err != api.OK || !slices.Equal(got, row("a", "2")) {
		t.Errorf("a=1, put a=2: %q, %d", got, err)
	}
	if got, err := attrs.Put(row("a", "1"), "b", "2"); err != api.OK || !slices.Equal(got, row("a", "1", "b", "2")) {
		t.Errorf("a=1, put b=2: %q, %d", got, err)
	}
	if got, err := attrs.Put(nil, "A", ""); err != api.ErrArg || len(got) != 0 {
		t.Errorf("none, put A: %q, %d", got, err)
	}
}

func TestExamplesOfDropAndGet(t *testing.T) {
	if got, err := attrs.Drop(row("a", "1"), "b"); err != api.ErrNone || len(got) != 0 {
		t.Errorf("a=1, without b: %q, %d", got, err)
	}
	if got, ok := attrs.Get(row("a", "1"), "a"); got != "1" || !ok {
		t.Errorf("a=1, get a: %q, %v", got, ok)
	}
}
