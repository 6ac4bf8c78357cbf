package lines_test

import (
	"math"
	"slices"
	"strings"
	"testing"

	"quillwork/api"
	"quillwork/cells"
	"quillwork/lines"
)

func cell(r rune, bits int, href string) api.Cell { return api.Cell{R: r, Bits: bits, Href: href} }

func row(l ...api.Cell) []api.Cell { return l }

func lists(l ...int) []int { return l }

func line(quote int, lists []int, kind int, cells ...api.Cell) api.Line {
	return api.Line{Quote: quote, Lists: lists, Kind: kind, Cells: cells}
}

// Some cells, one that may not be among them; and the lines of the chapter's examples.
var (
	a = cell('a', 0, "")
	b = cell('b', 0, "")
	B = cell('b', 1, "")
	L = cell('l', 2, "x")
	n = cell(10, 0, "")
	W = cell(-1, 16, " w")

	plain   = line(0, nil, 0, a, b)
	heading = line(0, nil, 2, a, b)
	listed  = line(0, lists(0, 1), 0, a, b)
	quoted  = line(1, nil, 0, a, b)
)

// rowsThatMay are rows of cells that may be.
var rowsThatMay = [][]api.Cell{nil, row(a), row(n), row(a, b), row(a, n, B, L)}

// listsUpTo are all lists of at most so many of these kinds.
func listsUpTo(most int, kinds ...int) [][]int {
	all := [][]int{nil}
	for from := 0; most > 0; most-- {
		to := len(all)
		for _, l := range all[from:to] {
			for _, k := range kinds {
				all = append(all, append(slices.Clone(l), k))
			}
		}
		from = to
	}
	return all
}

// frames are all lines without cells that may be.
func frames() []api.Line {
	var all []api.Line
	for quote := range 7 {
		for kind := range 4 {
			all = append(all, line(quote, nil, kind))
		}
		for _, l := range listsUpTo(6, 0, 1)[1:] {
			all = append(all, line(quote, l, 0))
		}
	}
	return all
}

// good are all lines that may be, with some rows of cells.
func good() []api.Line {
	var all []api.Line
	for _, f := range frames() {
		for _, r := range rowsThatMay {
			all = append(all, line(f.Quote, f.Lists, f.Kind, r...))
		}
	}
	return all
}

// bad are lines that may not be, each for one cause; some of them for two.
func bad() []api.Line {
	var all []api.Line
	for _, quote := range []int{math.MinInt, math.MinInt + 6, -1 << 32, -7, -1, 7, 8, 1 << 32, math.MaxInt} {
		all = append(all, line(quote, nil, 0, a), line(quote, lists(0), 0), line(quote, nil, 3))
	}
	for _, kind := range []int{math.MinInt, math.MinInt + 1, -1 << 32, -1, 2, 3, 1 << 32, math.MaxInt} {
		all = append(all, line(0, lists(kind), 0, a), line(1, lists(0, kind, 1), 0), line(0, lists(1, 1, 1, 1, 1, kind), 0, a), line(0, lists(kind, 0), 0))
	}
	for _, kind := range []int{math.MinInt, math.MinInt + 1, -1 << 32, -1, 4, 5, 1 << 32, math.MaxInt} {
		all = append(all, line(0, nil, kind, a), line(6, nil, kind), line(0, lists(1), kind))
	}
	for kind := 1; kind <= 3; kind++ {
		all = append(all, line(0, lists(0), kind, a), line(6, lists(1, 1), kind), line(2, lists(0, 1, 0, 1, 0, 1), kind))
	}
	all = append(all, line(0, lists(0, 0, 0, 0, 0, 0, 0), 0, a), line(6, lists(1, 1, 1, 1, 1, 1, 1), 0), line(0, make([]int, 70000), 0))
	for _, c := range row(W, cell(0, 0, ""), cell(9, 0, ""), cell(0xD800, 0, ""), cell('a', 16, ""), cell('a', -1, ""), cell('a', 0, " x"), cell(10, 0, "javascript:x")) {
		all = append(all, line(0, nil, 0, c), line(0, nil, 3, a, c), line(2, lists(0, 1), 0, c, a, n), line(6, nil, 0, a, b, n, B, L, c))
	}
	return all
}

// numbers are some that may be kinds, or places, and others.
func numbers() []int {
	all := []int{math.MinInt, math.MinInt + 1, math.MinInt + 3, -1 << 32, 1 << 32, 1<<32 | 1, math.MaxInt - 1, math.MaxInt}
	for i := -9; i <= 9; i++ {
		all = append(all, i)
	}
	return all
}

// same is told field by field; nil and empty lists are one.
func same(l, m api.Line) bool {
	return l.Quote == m.Quote && l.Kind == m.Kind && slices.Equal(l.Lists, m.Lists) && slices.Equal(l.Cells, m.Cells)
}

func isZero(l api.Line) bool { return same(l, api.Line{}) }

// clone is the line in other memory, with no room behind its lists.
func clone(l api.Line) api.Line {
	return api.Line{Quote: l.Quote, Lists: slices.Clip(slices.Clone(l.Lists)), Kind: l.Kind, Cells: slices.Clip(slices.Clone(l.Cells))}
}

// want tells whether that line is answered, beside OK.
func want(t *testing.T, got api.Line, err api.Errno, want api.Line) {
	t.Helper()
	if err != api.OK || !same(got, want) {
		t.Fatalf("got %v, %d, want %v", got, err, want)
	}
}

// wantErr tells whether that error is answered, and a zero line beside it.
func wantErr(t *testing.T, got api.Line, err, want api.Errno) {
	t.Helper()
	if err != want || !isZero(got) {
		t.Fatalf("got %v, %d, want a zero line, %d", got, err, want)
	}
}

func TestP6_1May(t *testing.T) {
	for _, l := range good() {
		if !lines.May(l) {
			t.Fatalf("May(%v) = false", l)
		}
	}
	for _, l := range bad() {
		if lines.May(l) {
			t.Fatalf("May(%v) = true", l)
		}
	}
	if !lines.May(api.Line{}) || !lines.May(api.Line{Lists: []int{}, Cells: []api.Cell{}, Kind: 3}) {
		t.Error("an empty line may not be")
	}
	if !lines.May(line(6, lists(0, 1, 0, 1, 0, 1), 0, cells.Of(strings.Repeat("ñ\n", 1<<16), 15, "x")...)) {
		t.Error("a long line may not be")
	}
}

func TestP6_1MayOfEachField(t *testing.T) {
	for quote := -3; quote <= 10; quote++ {
		for kind := -3; kind <= 6; kind++ {
			for _, l := range listsUpTo(2, -1, 0, 1, 2) {
				for _, c := range row(a, W) {
					may := quote >= 0 && quote <= 6 && kind >= 0 && kind <= 3 && (kind == 0 || len(l) == 0) && !slices.Contains(l, -1) && !slices.Contains(l, 2) && c == a
					if got := lines.May(line(quote, l, kind, c)); got != may {
						t.Fatalf("May of %d, %v, %d, %v = %v", quote, l, kind, c, got)
					}
				}
			}
		}
	}
}

func TestP6_1MayByHowManyLists(t *testing.T) {
	for _, l := range listsUpTo(9, 0, 1) {
		if got := lines.May(line(0, l, 0, a)); got != (len(l) <= 6) {
			t.Fatalf("May of the lists %v = %v", l, got)
		}
	}
}

// unlike are lines of which no two are the same; some may not be.
func unlike() []api.Line {
	var all []api.Line
	for _, quote := range []int{-1, 0, 1, 9} {
		for _, l := range [][]int{nil, {0}, {1}, {0, 1}, {1, 0}, {-5}, {0, 1, 0, 1, 0, 1, 0, 1}} {
			for _, kind := range []int{-1, 0, 1, 3} {
				for _, r := range [][]api.Cell{nil, {a}, {b}, {B}, {a, b}, {b, a}, {W}, {cell(-1, 16, "w")}, {n}} {
					all = append(all, line(quote, l, kind, r...))
				}
			}
		}
	}
	return all
}

func TestP6_1Same(t *testing.T) {
	all := unlike()
	for i, l := range all {
		for j, m := range all {
			if got := lines.Same(l, clone(m)); got != (i == j) {
				t.Fatalf("Same(%v, %v) = %v", l, m, got)
			}
		}
	}
	if !lines.Same(api.Line{}, api.Line{Lists: []int{}, Cells: []api.Cell{}}) || !lines.Same(api.Line{Lists: []int{}, Cells: []api.Cell{}}, api.Line{}) {
		t.Error("nil and empty lists are not one")
	}
}

func TestP6_1OwnAndFrame(t *testing.T) {
	for _, l := range slices.Concat(good(), bad(), unlike()) {
		if got := lines.Own(l); !same(got, l) {
			t.Fatalf("Own(%v) = %v", l, got)
		}
		if got := lines.Frame(l); !same(got, line(l.Quote, l.Lists, l.Kind)) {
			t.Fatalf("Frame(%v) = %v", l, got)
		}
	}
}

func TestP6_2Split(t *testing.T) {
	for _, l := range good() {
		for _, at := range numbers() {
			ahead, behind, err := lines.Split(l, at)
			if at < 0 || at > len(l.Cells) {
				wantErr(t, ahead, err, api.ErrArg)
				wantErr(t, behind, err, api.ErrArg)
				continue
			}
			kind := l.Kind
			if at == len(l.Cells) {
				kind = 0
			}
			want(t, ahead, err, line(l.Quote, l.Lists, l.Kind, l.Cells[:at]...))
			want(t, behind, err, line(l.Quote, l.Lists, kind, l.Cells[at:]...))
		}
	}
}

func TestP6_2SplitOfLinesThatMayNotBe(t *testing.T) {
	for _, l := range bad() {
		for _, at := range numbers() {
			ahead, behind, err := lines.Split(l, at)
			wantErr(t, ahead, err, api.ErrArg)
			wantErr(t, behind, err, api.ErrArg)
		}
	}
}

// few are lines that may be, of each kind some.
func few() []api.Line {
	var all []api.Line
	for _, f := range []api.Line{line(0, nil, 0), line(6, nil, 3), line(1, nil, 1), line(0, lists(0), 0), line(2, lists(1, 0, 1), 0), line(6, lists(1, 1, 1, 1, 1, 0), 0)} {
		for _, r := range rowsThatMay {
			all = append(all, line(f.Quote, f.Lists, f.Kind, r...))
		}
	}
	return all
}

func TestP6_2Join(t *testing.T) {
	for _, l := range good() {
		for _, m := range few() {
			got, err := lines.Join(l, m)
			want(t, got, err, line(l.Quote, l.Lists, l.Kind, slices.Concat(l.Cells, m.Cells)...))
			got, err = lines.Join(m, l)
			want(t, got, err, line(m.Quote, m.Lists, m.Kind, slices.Concat(m.Cells, l.Cells)...))
		}
	}
	got, err := lines.Join(listed, listed)
	want(t, got, err, line(0, lists(0, 1), 0, a, b, a, b))
}

func TestP6_2JoinOfLinesThatMayNotBe(t *testing.T) {
	for _, l := range bad() {
		for _, m := range few() {
			got, err := lines.Join(l, m)
			wantErr(t, got, err, api.ErrArg)
			got, err = lines.Join(m, l)
			wantErr(t, got, err, api.ErrArg)
		}
		got, err := lines.Join(l, l)
		wantErr(t, got, err, api.ErrArg)
	}
}

func TestP6_3Indent(t *testing.T) {
	for _, l := range good() {
		got, err := lines.Indent(l)
		switch in := len(l.Lists); {
		case in == 6, in == 0 && l.Quote == 6:
			wantErr(t, got, err, api.ErrOff)
		case in > 0:
			want(t, got, err, line(l.Quote, slices.Concat(l.Lists, l.Lists[in-1:]), l.Kind, l.Cells...))
		default:
			want(t, got, err, line(l.Quote+1, nil, l.Kind, l.Cells...))
		}
	}
}

func TestP6_3Outdent(t *testing.T) {
	for _, l := range good() {
		got, err := lines.Outdent(l)
		switch in := len(l.Lists); {
		case in > 0:
			want(t, got, err, line(l.Quote, l.Lists[:in-1], l.Kind, l.Cells...))
		case l.Quote > 0:
			want(t, got, err, line(l.Quote-1, nil, l.Kind, l.Cells...))
		default:
			wantErr(t, got, err, api.ErrOff)
		}
	}
}

func TestP6_3List(t *testing.T) {
	for _, l := range good() {
		for _, kind := range numbers() {
			got, err := lines.List(l, kind)
			switch in := len(l.Lists); {
			case kind != 0 && kind != 1:
				wantErr(t, got, err, api.ErrArg)
			case in == 0:
				want(t, got, err, line(l.Quote, lists(kind), 0, l.Cells...))
			case l.Lists[in-1] == kind:
				wantErr(t, got, err, api.ErrOff)
			default:
				want(t, got, err, line(l.Quote, slices.Concat(l.Lists[:in-1], lists(kind)), 0, l.Cells...))
			}
		}
	}
}

func TestP6_3Format(t *testing.T) {
	for _, l := range good() {
		for _, kind := range numbers() {
			got, err := lines.Format(l, kind)
			switch {
			case kind < 0 || kind > 3:
				wantErr(t, got, err, api.ErrArg)
			case len(l.Lists) > 0, kind == l.Kind:
				wantErr(t, got, err, api.ErrOff)
			default:
				want(t, got, err, line(l.Quote, nil, kind, l.Cells...))
			}
		}
	}
}

func TestP6_3Free(t *testing.T) {
	for _, l := range good() {
		got, err := lines.Free(l)
		switch in := len(l.Lists); {
		case in > 0:
			want(t, got, err, line(l.Quote, l.Lists[:in-1], 0, l.Cells...))
		case l.Kind > 0:
			want(t, got, err, line(l.Quote, nil, 0, l.Cells...))
		case l.Quote > 0:
			want(t, got, err, line(l.Quote-1, nil, 0, l.Cells...))
		default:
			wantErr(t, got, err, api.ErrOff)
		}
	}
}

// calls are all that answer one line and an error, with these arguments.
func calls(number int, other api.Line) map[string]func(l api.Line) (api.Line, api.Errno) {
	return map[string]func(l api.Line) (api.Line, api.Errno){
		"Split, ahead": func(l api.Line) (api.Line, api.Errno) {
			got, _, err := lines.Split(l, number)
			return got, err
		},
		"Split, behind": func(l api.Line) (api.Line, api.Errno) {
			_, got, err := lines.Split(l, number)
			return got, err
		},
		"Join":         func(l api.Line) (api.Line, api.Errno) { return lines.Join(l, other) },
		"Join, behind": func(l api.Line) (api.Line, api.Errno) { return lines.Join(other, l) },
		"Indent":       lines.Indent,
		"Outdent":      lines.Outdent,
		"List":         func(l api.Line) (api.Line, api.Errno) { return lines.List(l, number) },
		"Format":       func(l api.Line) (api.Line, api.Errno) { return lines.Format(l, number) },
		"Free":         lines.Free,
	}
}

// asked are the same, and those that answer a line of any line.
func asked(number int, other api.Line) map[string]func(l api.Line) (api.Line, api.Errno) {
	all := calls(number, other)
	all["Own"] = func(l api.Line) (api.Line, api.Errno) { return lines.Own(l), api.OK }
	all["Frame"] = func(l api.Line) (api.Line, api.Errno) { return lines.Frame(l), api.OK }
	return all
}

func TestP6_3LinesThatMayNotBe(t *testing.T) {
	for _, l := range bad() {
		for _, number := range numbers() {
			for name, call := range calls(number, plain) {
				if got, err := call(l); err != api.ErrArg || !isZero(got) {
					t.Fatalf("%s of %v, %d = %v, %d", name, l, number, got, err)
				}
			}
		}
	}
}

// withRoom is the line with more behind the ends of its lists, which nobody may change.
func withRoom(l api.Line) api.Line {
	l.Lists = append(slices.Clone(l.Lists), 7, 8, 9)[:len(l.Lists)]
	l.Cells = append(slices.Clone(l.Cells), W, L, W)[:len(l.Cells)]
	return l
}

// whole tells the line with what is behind its lists' ends.
func whole(l api.Line) api.Line {
	return clone(line(l.Quote, l.Lists[:cap(l.Lists)], l.Kind, l.Cells[:cap(l.Cells)]...))
}

// spoil writes over the line's lists, and over the room behind them.
func spoil(l api.Line) {
	in, row := l.Lists[:cap(l.Lists)], l.Cells[:cap(l.Cells)]
	for i := range in {
		in[i] = -99
	}
	for i := range row {
		row[i] = cell('!', 99, "spoilt")
	}
}

func TestP6_4WhatIsHandedInStays(t *testing.T) {
	for _, given := range slices.Concat(few(), bad()) {
		l, other := withRoom(given), withRoom(line(3, lists(1, 0), 0, B, n))
		before, beforeOther := whole(l), whole(other)
		for number := -1; number <= 5; number++ {
			for name, call := range asked(number, other) {
				first, err := call(l)
				kept := clone(first)
				second, _ := call(l)
				spoil(first)
				if !same(whole(l), before) || !same(whole(other), beforeOther) {
					t.Fatalf("%s with %d has changed %v, or %v", name, number, before, beforeOther)
				}
				third, again := call(l)
				if !same(second, kept) || !same(third, kept) || err != again {
					t.Fatalf("%s with %d: an answer hangs on another one", name, number)
				}
			}
		}
		lines.May(l)
		lines.Same(l, other)
		if !same(whole(l), before) || !same(whole(other), beforeOther) {
			t.Fatalf("May or Same has changed %v, or %v", before, beforeOther)
		}
	}
}

func TestP6_4AnswersDoNotFollowTheirArguments(t *testing.T) {
	for _, given := range few() {
		for number := -1; number <= 5; number++ {
			for name := range asked(number, plain) {
				l, other := withRoom(given), withRoom(line(3, lists(1, 0), 0, B, n))
				got, _ := asked(number, other)[name](l)
				kept := clone(got)
				spoil(l)
				spoil(other)
				if !same(got, kept) {
					t.Fatalf("%s of %v, %d has followed: %v", name, given, number, got)
				}
			}
		}
	}
}

func TestP6_4LinesOfSplitShareNothing(t *testing.T) {
	for _, l := range few() {
		for at := range len(l.Cells) + 1 {
			ahead, behind, err := lines.Split(l, at)
			kept := clone(behind)
			spoil(ahead)
			want(t, behind, err, kept)
			ahead, behind, err = lines.Split(l, at)
			kept = clone(ahead)
			spoil(behind)
			want(t, ahead, err, kept)
		}
	}
}

func TestP6_5WhatMayBeStaysSuch(t *testing.T) {
	done := map[string]int{}
	for _, l := range good() {
		for number := -1; number <= 4; number++ {
			for name, call := range asked(number, quoted) {
				got, err := call(l)
				if !lines.May(got) {
					t.Fatalf("%s of %v, %d = %v, which may not be", name, l, number, got)
				}
				if err == api.OK {
					done[name]++
				}
			}
		}
	}
	for name := range asked(0, plain) {
		if done[name] == 0 {
			t.Errorf("%s has never answered OK", name)
		}
	}
}

func TestP6_5CellsAreChangedBySplitAndJoinAlone(t *testing.T) {
	for _, l := range good() {
		for number := -1; number <= 4; number++ {
			for name, call := range calls(number, quoted) {
				got, err := call(l)
				if err == api.OK && !strings.HasPrefix(name, "Split") && !strings.HasPrefix(name, "Join") && !cells.Same(got.Cells, l.Cells) {
					t.Fatalf("%s of %v, %d has the cells %v", name, l, number, got.Cells)
				}
			}
		}
	}
}

func TestP6_6OutdentOfIndent(t *testing.T) {
	done := 0
	for _, l := range good() {
		in, err := lines.Indent(l)
		if err != api.OK {
			continue
		}
		done++
		back, err := lines.Outdent(in)
		want(t, back, err, l)
		if same(in, l) {
			t.Fatalf("Indent(%v) is the same", l)
		}
	}
	if done == 0 {
		t.Error("no line was indented")
	}
}

func TestP6_6JoinOfSplit(t *testing.T) {
	for _, l := range good() {
		for at := range len(l.Cells) + 1 {
			ahead, behind, err := lines.Split(l, at)
			if err != api.OK {
				t.Fatalf("Split(%v, %d) = %d", l, at, err)
			}
			back, err := lines.Join(ahead, behind)
			want(t, back, err, l)
		}
	}
}

func TestP6_6Freed(t *testing.T) {
	for _, l := range good() {
		times := len(l.Lists) + l.Quote
		if l.Kind > 0 {
			times++
		}
		now, err := l, api.OK
		for range times {
			if now, err = lines.Free(now); err != api.OK {
				t.Fatalf("Free(%v), so often: %d", l, err)
			}
		}
		want(t, now, err, line(0, nil, 0, l.Cells...))
		now, err = lines.Free(now)
		wantErr(t, now, err, api.ErrOff)
	}
}

func TestExamplesOfSplit(t *testing.T) {
	ahead, behind, err := lines.Split(heading, 1)
	want(t, ahead, err, line(0, nil, 2, a))
	want(t, behind, err, line(0, nil, 2, b))
	ahead, behind, err = lines.Split(heading, 2)
	want(t, ahead, err, heading)
	want(t, behind, err, line(0, nil, 0))
	ahead, behind, err = lines.Split(plain, 3)
	wantErr(t, ahead, err, api.ErrArg)
	wantErr(t, behind, err, api.ErrArg)
}

func TestExamplesOfIndentAndOutdent(t *testing.T) {
	got, err := lines.Indent(listed)
	want(t, got, err, line(0, lists(0, 1, 1), 0, a, b))
	got, err = lines.Indent(plain)
	want(t, got, err, quoted)
	got, err = lines.Outdent(listed)
	want(t, got, err, line(0, lists(0), 0, a, b))
	got, err = lines.Outdent(plain)
	wantErr(t, got, err, api.ErrOff)
}

func TestExamplesOfList(t *testing.T) {
	got, err := lines.List(heading, 1)
	want(t, got, err, line(0, lists(1), 0, a, b))
	got, err = lines.List(listed, 0)
	want(t, got, err, line(0, lists(0, 0), 0, a, b))
	got, err = lines.List(listed, 1)
	wantErr(t, got, err, api.ErrOff)
}

func TestExamplesOfFormat(t *testing.T) {
	got, err := lines.Format(listed, 1)
	wantErr(t, got, err, api.ErrOff)
	got, err = lines.Format(plain, 3)
	want(t, got, err, line(0, nil, 3, a, b))
	got, err = lines.Format(heading, 2)
	wantErr(t, got, err, api.ErrOff)
	got, err = lines.Format(plain, 4)
	wantErr(t, got, err, api.ErrArg)
}

func TestExamplesOfFree(t *testing.T) {
	got, err := lines.Free(listed)
	want(t, got, err, line(0, lists(0), 0, a, b))
	got, err = lines.Free(heading)
	want(t, got, err, plain)
	got, err = lines.Free(quoted)
	want(t, got, err, plain)
	got, err = lines.Free(plain)
	wantErr(t, got, err, api.ErrOff)
}
