package cells_test

import (
	"math"
	"slices"
	"strings"
	"testing"

	"quillwork/api"
	"quillwork/attrs"
	"quillwork/cells"
	"quillwork/chars"
	"quillwork/css"
)

func cell(r rune, bits int, href string) api.Cell { return api.Cell{R: r, Bits: bits, Href: href} }

func row(l ...api.Cell) []api.Cell { return l }

// The cells of the chapter's examples, and some more.
var (
	a = cell('a', 0, "")
	b = cell('b', 0, "")
	B = cell('b', 1, "")
	I = cell('i', 2, "")
	L = cell('l', 0, "x")
	M = cell('m', 1, "x")
	Y = cell('y', 0, "y")
	n = cell(10, 0, "")
	N = cell(10, 1, "x")
	W = cell(-1, 16|4, " w") // may not be, in any of its fields
)

// short are all rows of at most so many cells of these.
func short(most int, of ...api.Cell) [][]api.Cell {
	all := [][]api.Cell{nil}
	for from := 0; most > 0; most-- {
		to := len(all)
		for _, l := range all[from:to] {
			for _, c := range of {
				all = append(all, append(slices.Clone(l), c))
			}
		}
		from = to
	}
	return all
}

// rows are rows that may be, and such as may not.
func rows() [][]api.Cell { return short(4, a, B, L, M, Y, n, N, W) }

// places are those of a row, and such as are none of it.
func places(l []api.Cell) []int {
	all := []int{math.MinInt, math.MinInt + 1, -5, math.MaxInt - 1, math.MaxInt}
	for at := -2; at <= len(l)+2; at++ {
		all = append(all, at)
	}
	return all
}

// eachPart calls do with all from and to that may be, and all others of the places.
func eachPart(l []api.Cell, do func(from, to int, ok bool)) {
	for _, from := range places(l) {
		for _, to := range places(l) {
			ok := 0 <= from && from <= to && to <= len(l)
			do(from, to, ok)
		}
	}
}

// in tells whether a place's cell is one of from and to.
func in(i, from, to int) bool { return i >= from && i < to }

// wantRow tells whether that is answered, beside OK.
func wantRow(t *testing.T, got []api.Cell, err api.Errno, want []api.Cell) {
	t.Helper()
	if err != api.OK || !slices.Equal(got, want) {
		t.Fatalf("got %v, %d, want %v", got, err, want)
	}
}

// wantArg tells whether ErrArg is answered, and nothing beside it.
func wantArg(t *testing.T, got []api.Cell, err api.Errno) {
	t.Helper()
	if err != api.ErrArg || got != nil {
		t.Fatalf("got %v, %d, want none, ErrArg", got, err)
	}
}

// hrefs are some that may be, and some that may not.
var hrefs = []string{"", "x", "http://x", "x y", "ñ", "\u00A0", ":", "javascripts:x", strings.Repeat("x", 200), strings.Repeat("ñ", 100),
	" ", " x", "x ", "\n", "x\n", "\x00", "\x7f", "\xff", "x\xc3", "javascript", "JavaScript:x", strings.Repeat("x", 201), strings.Repeat("ñ", 101)}

// numbers are bits that may be, and others.
func numbers() []int {
	l := []int{math.MinInt, math.MinInt + 1, -1 << 32, -256, -15, math.MaxInt - 1, math.MaxInt, math.MaxInt &^ 15, math.MinInt | 15}
	for i := -4; i <= 40; i++ {
		l = append(l, i)
	}
	for i := range 63 {
		l = append(l, 1<<i)
	}
	return l
}

func TestP5_1MayOfEachCharacter(t *testing.T) {
	for r := rune(-300); r <= 0x110300; r++ {
		want := r == 10 || r >= 32 && r != 127 && (r < 0xD800 || r > 0xDFFF) && r <= 0x10FFFF
		if got := cells.May(cell(r, 15, "x")); got != want {
			t.Fatalf("May of the character %d = %v", r, got)
		}
	}
	for _, r := range []rune{math.MinInt32, math.MinInt32 + 10, -0x10FFFF, 0x7FFFFFF0, math.MaxInt32} {
		if cells.May(cell(r, 0, "")) {
			t.Errorf("May of the character %d", r)
		}
	}
}

func TestP5_1MayByBits(t *testing.T) {
	for _, bits := range numbers() {
		for _, r := range []rune{'a', 10} {
			if got, want := cells.May(cell(r, bits, "")), bits >= 0 && bits <= 15; got != want {
				t.Fatalf("May of the bits %d = %v", bits, got)
			}
		}
	}
}

func TestP5_1MayByHref(t *testing.T) {
	some := 0
	for _, href := range hrefs {
		want := href == "" || attrs.Target(href)
		if want {
			some++
		}
		for _, r := range []rune{'a', 10} {
			if got := cells.May(cell(r, 0, href)); got != want {
				t.Errorf("May of the href %q = %v", href, got)
			}
		}
	}
	if some != 10 {
		t.Errorf("%d hrefs may be", some)
	}
}

func TestP5_1MayOfRows(t *testing.T) {
	if !cells.May() || !cells.May([]api.Cell{}...) {
		t.Error("the empty row may not be")
	}
	for _, l := range rows() {
		if got, want := cells.May(l...), !slices.Contains(l, W); got != want {
			t.Fatalf("May(%v) = %v", l, got)
		}
	}
	for _, bad := range row(cell(0, 0, ""), cell(9, 0, ""), cell(0xD800, 0, ""), cell('a', 16, ""), cell('a', -1, ""), cell('a', 0, " "), cell(10, 0, "x "), W) {
		for at := range 6 {
			l := row(a, B, L, n, N, Y)
			if !cells.May(l...) {
				t.Fatalf("May(%v) = false", l)
			}
			l[at] = bad
			if cells.May(l...) {
				t.Fatalf("May(%v) = true", l)
			}
		}
	}
}

func TestP5_1Same(t *testing.T) {
	all := short(2, a, b, B, L, Y, n, N, W, cell(-2, 20, " w"), cell(-1, 20, "w"), cell(-1, 4, " w"))
	for i, l := range all {
		for j, m := range all {
			if got := cells.Same(l, slices.Clone(m)); got != (i == j) {
				t.Fatalf("Same(%v, %v) = %v", l, m, got)
			}
		}
	}
	if !cells.Same(nil, []api.Cell{}) || !cells.Same([]api.Cell{}, nil) || !cells.Same(nil, nil) {
		t.Error("rows of nothing are not the same")
	}
	for i, c := range []struct{ a, b []api.Cell }{
		{row(a), row(cell('A', 0, ""))},
		{row(a, b), row(b, a)},
		{row(a), row(a, a)},
		{row(cell(0, 0, "")), nil},
		{row(cell('a', 0, "\xff")), row(cell('a', 0, "\uFFFD"))},
		{row(cell(-1, 0, "")), row(cell(0xFFFD, 0, ""))},
	} {
		if cells.Same(c.a, c.b) || cells.Same(c.b, c.a) {
			t.Errorf("%d: %v and %v are the same", i, c.a, c.b)
		}
	}
}

// texts have characters of all kinds, and bytes that begin none.
var texts = []string{"", "a", "añ", "a\tb\x00c\n\xff", "\n", "\n\n", "\r\n\f", "\x7f\x01\x1f", "\xff\xfe", "\xed\xa0\x80", "é\xa9", " \u00A0 ", "😀\uFFFD", strings.Repeat("ñ\n", 5000)}

func TestP5_1Of(t *testing.T) {
	for _, s := range texts {
		clean := chars.Clean(s)
		for _, bits := range []int{0, 1, 15, 16, -1, math.MinInt} {
			for _, href := range []string{"", "x", " x", "javascript:x", "\xff"} {
				l := cells.Of(s, bits, href)
				if len(l) != len(clean) {
					t.Fatalf("Of(%.20q) has %d cells, want %d", s, len(l), len(clean))
				}
				for i, c := range l {
					if c != cell(clean[i], bits, href) {
						t.Fatalf("Of(%.20q, %d, %q): cell %d is %v", s, bits, href, i, c)
					}
				}
			}
		}
	}
	wantRow(t, cells.Of("a\tb\x00c\n\xff", 3, "x"), api.OK, row(cell('a', 3, "x"), cell(' ', 3, "x"), cell('b', 3, "x"), cell('c', 3, "x"), cell(10, 3, "x"), cell(0xFFFD, 3, "x")))
	if !cells.May(cells.Of(strings.Join(texts, ""), 15, "x")...) || cells.May(cells.Of("a", 16, "")...) || !cells.May(cells.Of("\x00", 16, " ")...) {
		t.Error("Of clean characters is not what May says of bits and href")
	}
}

func TestP5_1Text(t *testing.T) {
	for want, l := range map[string][]api.Cell{
		"":                     nil,
		"a":                    row(a),
		"ab":                   row(a, B),
		"bami\ny":              row(b, a, M, I, n, Y),
		"\n\n":                 row(n, N),
		"\uFFFD":               row(W),
		"ñ\x00\x7f😀":           row(cell('ñ', 0, ""), cell(0, 0, ""), cell(127, 9, "x"), cell(0x1F600, 99, " ")),
		"\uFFFDx\uFFFD\uFFFDx": row(cell(0xD800, 0, ""), cell('x', 0, ""), cell(0x110000, 0, ""), cell(math.MinInt32, 0, ""), cell('x', 0, "")),
	} {
		if got := cells.Text(l); got != want {
			t.Errorf("Text(%v) = %q, want %q", l, got, want)
		}
	}
	for _, s := range texts {
		if got, want := cells.Text(cells.Of(s, 7, "x")), chars.Text(chars.Clean(s)); got != want {
			t.Errorf("Text(Of(%.20q)) = %.20q", s, got)
		}
	}
}

func TestP5_2Insert(t *testing.T) {
	for _, l := range rows() {
		for _, more := range [][]api.Cell{nil, {}, row(a), row(B, n), row(W, L, W)} {
			for _, at := range places(l) {
				got, err := cells.Insert(l, at, more...)
				if at < 0 || at > len(l) {
					wantArg(t, got, err)
					continue
				}
				var want []api.Cell
				for i := range len(l) + 1 {
					if i == at {
						want = append(want, more...)
					}
					if i < len(l) {
						want = append(want, l[i])
					}
				}
				wantRow(t, got, err, want)
			}
		}
	}
}

func TestP5_2InsertOfItself(t *testing.T) {
	l := row(a, B, L)
	got, err := cells.Insert(l, 1, l...)
	wantRow(t, got, err, row(a, a, B, L, B, L))
	got, err = cells.Insert(l[:1], 0, l[1:]...)
	wantRow(t, got, err, row(B, L, a))
	wantRow(t, l, api.OK, row(a, B, L))
}

func TestP5_2CutAndPart(t *testing.T) {
	for _, l := range rows() {
		eachPart(l, func(from, to int, ok bool) {
			rest, err := cells.Cut(l, from, to)
			part, err2 := cells.Part(l, from, to)
			if !ok {
				wantArg(t, rest, err)
				wantArg(t, part, err2)
				return
			}
			var left, taken []api.Cell
			for i, c := range l {
				if in(i, from, to) {
					taken = append(taken, c)
				} else {
					left = append(left, c)
				}
			}
			wantRow(t, rest, err, left)
			wantRow(t, part, err2, taken)
		})
	}
}

func TestP5_3Set(t *testing.T) {
	for _, l := range short(3, a, B, L, N, W, cell('z', -1, "")) {
		for _, c := range [][2]int{{0, 0}, {1, 0}, {0, 1}, {1, 1}, {2, 1}, {12, 3}, {5, 4}, {15, 0}, {0, 15}, {16, 0}, {0, 16}, {-1, 0}, {0, -1}, {-1, -1}, {32 | 2, 64 | 1}} {
			eachPart(l, func(from, to int, ok bool) {
				got, err := cells.Set(l, from, to, c[0], c[1])
				if !ok {
					wantArg(t, got, err)
					return
				}
				want := slices.Clone(l)
				for i := range want {
					if in(i, from, to) {
						want[i].Bits = css.Over(l[i].Bits, c[0]&15, c[1]&15)
					}
				}
				wantRow(t, got, err, want)
			})
		}
	}
}

func TestP5_3SetOfAllBits(t *testing.T) {
	for _, bits := range numbers() {
		for _, set := range numbers() {
			for _, clear := range numbers() {
				got, err := cells.Set(row(cell('a', bits, "x")), 0, 1, set, clear)
				want := bits
				for bit := 1; bit <= 8; bit *= 2 {
					switch {
					case set&bit != 0:
						want |= bit
					case clear&bit != 0:
						want &^= bit
					}
				}
				if err != api.OK || len(got) != 1 || got[0] != cell('a', want, "x") {
					t.Fatalf("Set of the bits %d, %d, %d is %v, want %d", bits, set, clear, got, want)
				}
			}
		}
	}
}

func TestP5_3Link(t *testing.T) {
	for _, l := range short(3, a, B, L, Y, N, W) {
		for _, href := range hrefs {
			may := href == "" || attrs.Target(href)
			eachPart(l, func(from, to int, ok bool) {
				got, err := cells.Link(l, from, to, href)
				if !ok || !may {
					wantArg(t, got, err)
					return
				}
				want := slices.Clone(l)
				for i := range want {
					if in(i, from, to) {
						want[i].Href = href
					}
				}
				wantRow(t, got, err, want)
			})
		}
	}
}

func TestP5_4AllAndSome(t *testing.T) {
	for _, l := range short(3, a, B, I, cell('c', 3, "x"), cell(10, 12, ""), W, cell('z', -1, "")) {
		for _, bits := range []int{0, 1, 2, 3, 4, 8, 12, 15, 16, 20, 17, 32, -1, math.MinInt} {
			eachPart(l, func(from, to int, ok bool) {
				all, some := ok && from < to, false
				for i, c := range l {
					if !ok || !in(i, from, to) {
						continue
					}
					for bit := range 64 {
						asked, had := bits>>bit&1 == 1, c.Bits>>bit&1 == 1
						all = all && (had || !asked)
						some = some || had && asked
					}
				}
				if got := cells.All(l, from, to, bits); got != all {
					t.Fatalf("All(%v, %d, %d, %d) = %v", l, from, to, bits, got)
				}
				if got := cells.Some(l, from, to, bits); got != some {
					t.Fatalf("Some(%v, %d, %d, %d) = %v", l, from, to, bits, got)
				}
			})
		}
	}
}

// runs are a row's, told by where one ends: at a break, behind one, or where Bits or Href change.
func runs(l []api.Cell) []api.Run {
	var all []api.Run
	for i, c := range l {
		if i > 0 && c.R != 10 && l[i-1].R != 10 && c.Bits == l[i-1].Bits && c.Href == l[i-1].Href {
			all[len(all)-1].To++
			continue
		}
		r := api.Run{From: i, To: i + 1, Bits: c.Bits, Href: c.Href}
		if c.R == 10 {
			r.Break = 1
		}
		all = append(all, r)
	}
	return all
}

func TestP5_5Runs(t *testing.T) {
	for _, l := range short(4, a, b, B, L, M, Y, n, N, cell(10, 0, "x"), W) {
		if got, want := cells.Runs(l), runs(l); !slices.Equal(got, want) {
			t.Fatalf("Runs(%v) = %v, want %v", l, got, want)
		}
	}
	for i, c := range []struct {
		l    []api.Cell
		want []api.Run
	}{
		{nil, nil},
		{row(a), []api.Run{{From: 0, To: 1}}},
		{row(N), []api.Run{{From: 0, To: 1, Bits: 1, Href: "x", Break: 1}}},
		{row(M, N, M, M), []api.Run{{From: 0, To: 1, Bits: 1, Href: "x"}, {From: 1, To: 2, Bits: 1, Href: "x", Break: 1}, {From: 2, To: 4, Bits: 1, Href: "x"}}},
		{row(a, L, Y, a), []api.Run{{From: 0, To: 1}, {From: 1, To: 2, Href: "x"}, {From: 2, To: 3, Href: "y"}, {From: 3, To: 4}}},
		{row(W, cell('w', 20, " w"), cell(0, 20, " w"), cell('w', 4, " w")), []api.Run{{From: 0, To: 3, Bits: 20, Href: " w"}, {From: 3, To: 4, Bits: 4, Href: " w"}}},
		{cells.Of(strings.Repeat("ñb", 1<<19), 3, "y"), []api.Run{{From: 0, To: 1 << 20, Bits: 3, Href: "y"}}},
	} {
		if got := cells.Runs(c.l); !slices.Equal(got, c.want) {
			t.Errorf("%d: Runs = %v, want %v", i, got, c.want)
		}
	}
	if got := cells.Runs(cells.Of(strings.Repeat("\n", 1<<20), 0, "")); len(got) != 1<<20 {
		t.Errorf("%d runs of breaks", len(got))
	}
}

// taken is the place that a call takes at as.
func taken(l []api.Cell, at int) int {
	switch {
	case at < 0:
		return 0
	case at > len(l):
		return len(l)
	}
	return at
}

func TestP5_5Around(t *testing.T) {
	for _, l := range rows() {
		for _, given := range places(l) {
			at, bits, href := taken(l, given), 0, ""
			switch {
			case at > 0:
				bits = l[at-1].Bits
			case len(l) > 0:
				bits = l[0].Bits
			}
			if at > 0 && at < len(l) && l[at-1].Href == l[at].Href {
				href = l[at].Href
			}
			if gotBits, gotHref := cells.Around(l, given); gotBits != bits || gotHref != href {
				t.Fatalf("Around(%v, %d) = %d, %q, want %d, %q", l, given, gotBits, gotHref, bits, href)
			}
		}
	}
}

// linked tells whether the cells from and to are all that have one href there, which is not empty.
func linked(l []api.Cell, from, to int) bool {
	href := l[from].Href
	for i := from; i < to; i++ {
		if l[i].Href == "" || l[i].Href != href {
			return false
		}
	}
	return (from == 0 || l[from-1].Href != href) && (to == len(l) || l[to].Href != href)
}

// within looks for the linked cells that the cell ahead, or, if that has no href, the one behind is one of.
func within(l []api.Cell, at int) (int, int) {
	one := at
	if at > 0 && l[at-1].Href != "" {
		one = at - 1
	}
	for from := range l {
		for to := from + 1; to <= len(l); to++ {
			if in(one, from, to) && linked(l, from, to) {
				return from, to
			}
		}
	}
	return at, at
}

func TestP5_5Within(t *testing.T) {
	for _, l := range rows() {
		for _, given := range places(l) {
			from, to := within(l, taken(l, given))
			if gotFrom, gotTo := cells.Within(l, given); gotFrom != from || gotTo != to {
				t.Fatalf("Within(%v, %d) = %d, %d, want %d, %d", l, given, gotFrom, gotTo, from, to)
			}
		}
	}
	for i, c := range []struct {
		l            []api.Cell
		at, from, to int
	}{
		{nil, 5, 0, 0},
		{nil, -5, 0, 0},
		{row(a, a), -7, 0, 0},
		{row(a, a), 7, 2, 2},
		{row(L, M, a), -7, 0, 2},
		{row(a, L, M), 7, 1, 3},
		{row(L, Y, Y), 1, 0, 1},
		{row(L, Y, Y), 2, 1, 3},
		{row(a, L, N, M, Y, a), 1, 1, 4},
		{row(a, L, N, M, Y, a), 2, 1, 4},
		{row(a, L, N, M, Y, a), 4, 1, 4},
		{row(a, L, N, M, Y, a), 5, 4, 5},
		{row(a, L, N, M, Y, a), 6, 6, 6},
		{row(L, a, L), 2, 2, 3},
		{row(L, a, L), 1, 0, 1},
		{row(L, n, L), 1, 0, 1},
	} {
		if from, to := cells.Within(c.l, c.at); from != c.from || to != c.to {
			t.Errorf("%d: Within(%v, %d) = %d, %d, want %d, %d", i, c.l, c.at, from, to, c.from, c.to)
		}
	}
	long := cells.Of(strings.Repeat("x", 1<<20), 0, "x")
	if from, to := cells.Within(long, 1<<19); from != 0 || to != 1<<20 {
		t.Errorf("Within a long row = %d, %d", from, to)
	}
}

// withRoom is the row with three more behind its end, which nobody may change.
func withRoom(l []api.Cell) []api.Cell {
	return append(slices.Clone(l), Y, N, W)[:len(l)]
}

// whole tells the row with what is behind its end.
func whole(l []api.Cell) []api.Cell { return slices.Clone(l[:cap(l)]) }

// spoil writes over what was answered, and over the room behind it.
func spoil(l []api.Cell) {
	l = l[:cap(l)]
	for i := range l {
		l[i] = cell('!', 99, "spoilt")
	}
}

func TestP5_6WhatIsHandedInStays(t *testing.T) {
	for _, given := range short(3, a, B, L, N, W) {
		l, more := withRoom(given), withRoom(row(M, n))
		before, beforeMore := whole(l), whole(more)
		eachPart(given, func(from, to int, ok bool) {
			calls := []func() ([]api.Cell, api.Errno){
				func() ([]api.Cell, api.Errno) { return cells.Insert(l, from, more...) },
				func() ([]api.Cell, api.Errno) { return cells.Insert(l, from) },
				func() ([]api.Cell, api.Errno) { return cells.Insert(nil, from, more...) },
				func() ([]api.Cell, api.Errno) { return cells.Cut(l, from, to) },
				func() ([]api.Cell, api.Errno) { return cells.Part(l, from, to) },
				func() ([]api.Cell, api.Errno) { return cells.Set(l, from, to, 5, 2) },
				func() ([]api.Cell, api.Errno) { return cells.Set(l, from, to, 0, 0) },
				func() ([]api.Cell, api.Errno) { return cells.Link(l, from, to, "z") },
				func() ([]api.Cell, api.Errno) { return cells.Link(l, from, to, "") },
			}
			for i, call := range calls {
				first, _ := call()
				kept := slices.Clone(first)
				second, _ := call()
				spoil(first)
				if !slices.Equal(whole(l), before) || !slices.Equal(whole(more), beforeMore) {
					t.Fatalf("call %d with %d, %d has changed %v, or %v", i, from, to, before, beforeMore)
				}
				if third, _ := call(); !slices.Equal(second, kept) || !slices.Equal(third, kept) {
					t.Fatalf("call %d with %d, %d: an answer hangs on another one", i, from, to)
				}
			}
		})
	}
}

func TestP5_6AskingChangesNothing(t *testing.T) {
	for _, given := range short(3, a, B, L, N, W) {
		l := withRoom(given)
		before := whole(l)
		for _, at := range places(l) {
			cells.May(l...)
			cells.Same(l, l)
			cells.Text(l)
			cells.All(l, 0, at, 1)
			cells.Some(l, at, len(l), 1)
			cells.Around(l, at)
			cells.Within(l, at)
		}
		told := cells.Runs(l)
		kept := slices.Clone(told)
		told = told[:cap(told)]
		for i := range told {
			told[i] = api.Run{From: -1}
		}
		if !slices.Equal(cells.Runs(l), kept) || !slices.Equal(whole(l), before) {
			t.Fatalf("%v has changed", before)
		}
	}
}

func TestP5_6AnswersDoNotFollowTheirArguments(t *testing.T) {
	l, more := row(a, B, L), row(n, Y)
	type pair struct{ got, want []api.Cell }
	var all []pair
	keep := func(got []api.Cell, err api.Errno) {
		if err != api.OK {
			t.Errorf("got %d", err)
		}
		all = append(all, pair{got, slices.Clone(got)})
	}
	keep(cells.Insert(l, 3, more...))
	keep(cells.Insert(l, 1))
	keep(cells.Insert(nil, 0, more...))
	keep(cells.Cut(l, 0, 0))
	keep(cells.Cut(l, 2, 3))
	keep(cells.Cut(l, 0, 1))
	keep(cells.Part(l, 0, 3))
	keep(cells.Part(l, 1, 2))
	keep(cells.Set(l, 1, 1, 1, 0))
	keep(cells.Set(l, 0, 2, 1, 0))
	keep(cells.Link(l, 3, 3, "x"))
	keep(cells.Link(l, 1, 2, "x"))
	spoil(l)
	spoil(more)
	for i, p := range all {
		if !slices.Equal(p.got, p.want) {
			t.Errorf("%d: %v, want %v", i, p.got, p.want)
		}
	}
}

func TestP5_7PutInAndCutOut(t *testing.T) {
	for _, l := range short(3, a, B, L, N, W) {
		for _, more := range short(2, M, n, W) {
			for at := range len(l) + 1 {
				longer, err := cells.Insert(l, at, more...)
				if err != api.OK {
					t.Fatalf("Insert(%v, %d) = %d", l, at, err)
				}
				back, err := cells.Cut(longer, at, at+len(more))
				wantRow(t, back, err, l)
				part, err := cells.Part(longer, at, at+len(more))
				wantRow(t, part, err, more)
			}
		}
	}
}

func TestP5_7ARowIsItsParts(t *testing.T) {
	for _, l := range rows() {
		for from := range len(l) + 1 {
			for to := from; to <= len(l); to++ {
				first, err1 := cells.Part(l, 0, from)
				mid, err2 := cells.Part(l, from, to)
				last, err3 := cells.Part(l, to, len(l))
				if err1 != api.OK || err2 != api.OK || err3 != api.OK || !cells.Same(slices.Concat(first, mid, last), l) {
					t.Fatalf("the parts of %v, cut at %d and %d, are %v, %v, %v", l, from, to, first, mid, last)
				}
				rest, err := cells.Cut(l, from, to)
				wantRow(t, rest, err, slices.Concat(first, last))
				back, err := cells.Insert(rest, from, mid...)
				wantRow(t, back, err, l)
			}
		}
	}
}

func TestP5_8SetChangesBitsAlone(t *testing.T) {
	changed := 0
	for _, l := range short(3, a, B, L, N, W) {
		for bits := range 256 {
			for from := range len(l) + 1 {
				for to := from; to <= len(l); to++ {
					got, err := cells.Set(l, from, to, bits&15, bits>>4)
					if err != api.OK || len(got) != len(l) {
						t.Fatalf("Set(%v, %d, %d) = %v, %d", l, from, to, got, err)
					}
					for i, c := range got {
						if c.R != l[i].R || c.Href != l[i].Href || c.Bits != l[i].Bits && !in(i, from, to) {
							t.Fatalf("Set(%v, %d, %d) = %v", l, from, to, got)
						}
						if c.Bits != l[i].Bits {
							changed++
						}
					}
				}
			}
		}
	}
	if changed == 0 {
		t.Error("Set has changed nothing")
	}
}

func TestP5_8SetThenCleared(t *testing.T) {
	for _, l := range short(3, a, B, I, N, W) {
		for bits := 1; bits < 16; bits++ {
			for from := range len(l) + 1 {
				for to := from; to <= len(l); to++ {
					had, err := cells.Set(l, from, to, bits, 0)
					if err != api.OK || cells.All(had, from, to, bits) != (from < to) {
						t.Fatalf("set %d from %d to %d: %v", bits, from, to, had)
					}
					none, err := cells.Set(had, from, to, 0, bits)
					if err != api.OK || len(none) != len(l) || cells.Some(none, from, to, bits) {
						t.Fatalf("set and cleared %d from %d to %d: %v", bits, from, to, none)
					}
				}
			}
		}
	}
}

func TestP5_8SetTwiceIsSet(t *testing.T) {
	for _, l := range short(2, a, B, cell('c', 6, "x"), N, W) {
		for bits := range 256 {
			for from := range len(l) + 1 {
				for to := from; to <= len(l); to++ {
					once, _ := cells.Set(l, from, to, bits&15, bits>>4)
					twice, err := cells.Set(once, from, to, bits&15, bits>>4)
					wantRow(t, twice, err, once)
				}
			}
		}
	}
}

func TestP5_8WhatMayBeStaysSuch(t *testing.T) {
	for _, l := range short(3, a, B, L, N) {
		for _, bits := range numbers() {
			set, err1 := cells.Set(l, 0, len(l), bits, 0)
			cleared, err2 := cells.Set(l, 0, len(l), 0, bits)
			if err1 != api.OK || err2 != api.OK || !cells.May(set...) || !cells.May(cleared...) {
				t.Fatalf("Set(%v) of %d may not be", l, bits)
			}
		}
	}
}

func TestP5_9RunsAreTheRow(t *testing.T) {
	for _, l := range short(4, a, b, B, L, M, Y, n, N, W) {
		at := 0
		for _, r := range cells.Runs(l) {
			if r.From != at || r.To <= r.From || r.To > len(l) {
				t.Fatalf("Runs(%v) has a gap: %v at %d", l, r, at)
			}
			for _, c := range l[r.From:r.To] {
				if c.Bits != r.Bits || c.Href != r.Href || (c.R == 10) != (r.Break == 1) {
					t.Fatalf("Runs(%v): %v is not in %v", l, c, r)
				}
			}
			if r.Break != 0 && (r.Break != 1 || r.To != r.From+1) {
				t.Fatalf("Runs(%v): the break %v is not by itself", l, r)
			}
			at = r.To
		}
		if at != len(l) {
			t.Fatalf("Runs(%v) ends at %d", l, at)
		}
	}
}

func TestP5_9RunsSideBySideAreUnlike(t *testing.T) {
	for _, l := range short(4, a, b, B, L, M, Y, n, N, W) {
		all := cells.Runs(l)
		for i := 1; i < len(all); i++ {
			p, q := all[i-1], all[i]
			if p.Bits == q.Bits && p.Href == q.Href && p.Break == 0 && q.Break == 0 {
				t.Fatalf("Runs(%v): %v and %v are one", l, p, q)
			}
		}
	}
}

func TestExamplesOfOfAndText(t *testing.T) {
	l := cells.Of("añ", 1, "")
	wantRow(t, l, api.OK, row(cell('a', 1, ""), cell('ñ', 1, "")))
	if got := cells.Text(l); got != "añ" {
		t.Errorf("Text = %q", got)
	}
}

func TestExamplesOfInsertAndCut(t *testing.T) {
	got, err := cells.Insert(row(a, B), 1, n)
	wantRow(t, got, err, row(a, n, B))
	got, err = cells.Cut(row(a, n, B), 1, 2)
	wantRow(t, got, err, row(a, B))
	got, err = cells.Cut(row(a), 1, 0)
	wantArg(t, got, err)
}

func TestExamplesOfSet(t *testing.T) {
	got, err := cells.Set(row(a, B), 0, 2, 2, 1)
	wantRow(t, got, err, row(cell('a', 2, ""), cell('b', 2, "")))
}

func TestExamplesOfRuns(t *testing.T) {
	want := []api.Run{{From: 0, To: 2}, {From: 2, To: 3, Bits: 1}, {From: 3, To: 4, Break: 1}, {From: 4, To: 5, Break: 1}}
	if got := cells.Runs(row(a, a, B, n, n)); !slices.Equal(got, want) {
		t.Errorf("Runs = %v, want %v", got, want)
	}
}

func TestExamplesOfAround(t *testing.T) {
	for i, c := range []struct {
		l    []api.Cell
		at   int
		bits int
		href string
	}{
		{row(B, a), 1, 1, ""},
		{row(B, a), 0, 1, ""},
		{row(L, L), 1, 0, "x"},
		{row(L, a), 1, 0, ""},
	} {
		if bits, href := cells.Around(c.l, c.at); bits != c.bits || href != c.href {
			t.Errorf("%d: Around = %d, %q, want %d, %q", i, bits, href, c.bits, c.href)
		}
	}
}

func TestExamplesOfWithin(t *testing.T) {
	for i, c := range []struct {
		l            []api.Cell
		at, from, to int
	}{
		{row(a, L, L), 2, 1, 3},
		{row(a, L), 1, 1, 2},
		{row(a, a), 1, 1, 1},
	} {
		if from, to := cells.Within(c.l, c.at); from != c.from || to != c.to {
			t.Errorf("%d: Within = %d, %d, want %d, %d", i, from, to, c.from, c.to)
		}
	}
}
