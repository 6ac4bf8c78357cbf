package doc_test

import (
	"math"
	"slices"
	"strings"
	"testing"

	"quillwork/api"
	"quillwork/cells"
	"quillwork/doc"
	"quillwork/lines"
)

func cell(r rune, bits int, href string) api.Cell { return api.Cell{R: r, Bits: bits, Href: href} }

func row(l ...api.Cell) []api.Cell { return l }

func lists(l ...int) []int { return l }

func line(quote int, lists []int, kind int, cells ...api.Cell) api.Line {
	return api.Line{Quote: quote, Lists: lists, Kind: kind, Cells: cells}
}

func lot(l ...api.Line) []api.Line { return l }

func pos(line, at int) api.Pos { return api.Pos{Line: line, At: at} }

// Some cells, one that may not be among them; some lines; and the document of the chapter's examples.
var (
	a = cell('a', 0, "")
	b = cell('b', 0, "")
	c = cell('c', 0, "")
	B = cell('b', 1, "")
	I = cell('i', 3, "x")
	L = cell('l', 2, "x")
	n = cell(10, 4, "")
	W = cell(-1, 16, " w")

	empty   = line(0, nil, 0)
	plain   = line(0, nil, 0, a, b)
	heading = line(0, nil, 2, c)
	listed  = line(1, lists(0, 1), 0, B, n, L)
	item    = line(0, lists(1), 0)
	quoted  = line(6, nil, 3, I, B)

	example = lot(plain, heading)
)

// good are documents that may be: all of up to three of some lines.
func good() [][]api.Line {
	all := [][]api.Line{nil}
	for from, most := 0, 3; most > 0; most-- {
		to := len(all)
		for _, d := range all[from:to] {
			for _, l := range lot(plain, empty, listed, heading, quoted, item) {
				all = append(all, append(slices.Clip(slices.Clone(d)), l))
			}
		}
		from = to
	}
	return all[1:]
}

// few are some of them, and such as are at the limits.
func few() [][]api.Line {
	return [][]api.Line{lot(empty), lot(plain), lot(item, empty), example, lot(listed, empty, quoted, item, heading), lot(quoted, quoted, listed, listed)}
}

// cellsOf are so many cells, all unlike those beside them.
func cellsOf(count int) []api.Cell {
	var l []api.Cell
	for i := range count {
		l = append(l, cell(rune('a'+i%26), i%16, ""))
	}
	return l
}

// linesOf are so many lines of so many cells each.
func linesOf(count, each int) []api.Line {
	var d []api.Line
	for range count {
		d = append(d, line(0, nil, 1, cellsOf(each)...))
	}
	return d
}

// full are documents that may be, with as many lines, or cells, as there may be.
func full() [][]api.Line {
	return [][]api.Line{linesOf(200, 0), linesOf(1, 4000), linesOf(200, 20), slices.Concat(lot(listed), linesOf(1, 3997)), slices.Concat(linesOf(198, 0), lot(plain, quoted))}
}

// long have more lines, or cells, than there may be, and no other fault.
func long() [][]api.Line {
	return [][]api.Line{linesOf(201, 0), linesOf(201, 1), linesOf(1, 4001), slices.Concat(lot(listed), linesOf(1, 3998)), linesOf(200, 21), slices.Concat(linesOf(200, 20), lot(empty)), slices.Concat(linesOf(199, 20), linesOf(1, 21)), linesOf(5000, 2)}
}

// bad are documents that may not be.
func bad() [][]api.Line {
	all := slices.Concat([][]api.Line{nil, {}}, long())
	for _, wrong := range lot(line(-1, nil, 0, a), line(7, nil, 0), line(0, lists(2), 0, a), line(0, lists(-1, 0), 0), line(0, lists(0), 1, a), line(0, lists(0, 0, 0, 0, 0, 0, 0), 0), line(0, nil, 4, a), line(0, nil, -1), line(0, nil, 0, a, W), line(0, nil, 0, cell('a', 16, "")), line(0, nil, 0, cell('a', 0, " x"), b), line(0, nil, 0, cell(0xD800, 0, ""))) {
		all = append(all, lot(wrong), lot(wrong, plain, empty), lot(plain, wrong, heading), lot(listed, empty, wrong))
	}
	return append(all, lot(line(0, nil, 0, cellsOf(4000)...), line(9, nil, 9, W, W)))
}

// allKinds are documents of all kinds.
func allKinds() [][]api.Line { return slices.Concat(good(), few(), full(), bad()) }

// small are those of all kinds with few steps.
func small() [][]api.Line {
	var all [][]api.Line
	for _, d := range allKinds() {
		if len(steps(d)) < 40 {
			all = append(all, d)
		}
	}
	return all
}

// steps are all places of a document, in their order: the number of each is its Offset.
func steps(d []api.Line) []api.Pos {
	var all []api.Pos
	for i, l := range d {
		for at := range len(l.Cells) + 1 {
			all = append(all, pos(i, at))
		}
	}
	return all
}

// extremes are numbers far from those of lines and cells.
var extremes = []int{math.MinInt, math.MinInt + 1, -1 << 32, -7, 99999, 1 << 32, 1<<32 | 1, math.MaxInt - 1, math.MaxInt}

// places are those of a document, and such as are none of it: close by, and far off.
func places(d []api.Line) []api.Pos {
	var all []api.Pos
	for i := -2; i <= len(d)+1; i++ {
		has := 0
		if i >= 0 && i < len(d) {
			has = len(d[i].Cells)
		}
		for at := -2; at <= has+2; at++ {
			all = append(all, pos(i, at))
		}
	}
	for _, x := range extremes {
		all = append(all, pos(x, 0), pos(x, 1), pos(0, x), pos(len(d)-1, x), pos(x, x), pos(x, -x), pos(x, -1))
	}
	return all
}

// offsetOf is the number of the place among the steps, or -1.
func offsetOf(d []api.Line, p api.Pos) int { return slices.Index(steps(d), p) }

func same(l, m api.Line) bool {
	return l.Quote == m.Quote && l.Kind == m.Kind && slices.Equal(l.Lists, m.Lists) && slices.Equal(l.Cells, m.Cells)
}

// sameLines is told field by field; nil and empty lists are one.
func sameLines(d, e []api.Line) bool { return slices.EqualFunc(d, e, same) }

// frame is the line without cells, in other memory.
func frame(l api.Line) api.Line {
	return line(l.Quote, slices.Clip(slices.Clone(l.Lists)), l.Kind)
}

// clone is the document in other memory, with no room behind its lists.
func clone(d []api.Line) []api.Line {
	var all []api.Line
	for _, l := range d {
		m := frame(l)
		m.Cells = slices.Clip(slices.Clone(l.Cells))
		all = append(all, m)
	}
	return slices.Clip(all)
}

// wantLines tells whether these lines are answered, beside OK.
func wantLines(t *testing.T, got []api.Line, err api.Errno, want []api.Line) {
	t.Helper()
	if err != api.OK || !sameLines(got, want) {
		t.Fatalf("got %v, %d, want %v", got, err, want)
	}
}

// wantAt tells whether these lines and that place are answered, beside OK.
func wantAt(t *testing.T, got []api.Line, p api.Pos, err api.Errno, want []api.Line, at api.Pos) {
	t.Helper()
	wantLines(t, got, err, want)
	if p != at {
		t.Fatalf("got the place %v, want %v", p, at)
	}
}

// wantErr tells whether that error is answered, and nothing beside it.
func wantErr(t *testing.T, got []api.Line, p api.Pos, err, want api.Errno) {
	t.Helper()
	if err != want || len(got) > 0 || p != pos(0, 0) {
		t.Fatalf("got %v, %v, %d, want nothing, %d", got, p, err, want)
	}
}

// hrefs are some that may be, and some that may not.
var (
	targets  = []string{"", "x", "http://x", "ñ", strings.Repeat("x", 200)}
	badHrefs = []string{" ", " x", "x ", "\n", "\xff", "JavaScript:x", strings.Repeat("x", 201)}
)

// bitsOf are numbers that may be bits, and others.
var bitsOf = []int{0, 1, 2, 3, 4, 6, 8, 12, 15, 16, 17, 19, 31, 1 << 32, -1, -16, -15, math.MinInt, math.MaxInt}

func TestP7_1May(t *testing.T) {
	for _, d := range slices.Concat(good(), few(), full()) {
		if !doc.May(d) {
			t.Errorf("May(%.300v) = false", d)
		}
	}
	for _, d := range bad() {
		if doc.May(d) {
			t.Errorf("May(%.300v) = true", d)
		}
	}
}

func TestP7_1MayAtTheLimits(t *testing.T) {
	for count := range 210 {
		if got, want := doc.May(linesOf(count, 1)), count >= 1 && count <= 200; got != want {
			t.Errorf("May of %d lines = %v", count, got)
		}
	}
	for count := 3990; count < 4010; count++ {
		for _, ahead := range []int{0, 1, 2000, 3990} {
			d := lot(line(0, nil, 0, cellsOf(ahead)...), empty, line(0, nil, 0, cellsOf(count-ahead)...))
			if got, want := doc.May(d), count <= 4000; got != want {
				t.Errorf("May of %d cells, %d of them ahead = %v", count, ahead, got)
			}
		}
	}
}

func TestP7_1MayOfEachLine(t *testing.T) {
	for at := range 200 {
		d := linesOf(200, 1)
		d[at].Quote = 7
		if doc.May(d) {
			t.Errorf("May, with line %d that may not be", at)
		}
	}
}

func TestP7_1Same(t *testing.T) {
	all := slices.Concat([][]api.Line{nil}, good(), bad()[10:])
	for i, d := range all {
		for j, e := range all {
			if got := doc.Same(d, clone(e)); got != (i == j) {
				t.Fatalf("Same(%.300v, %.300v) = %v", d, e, got)
			}
		}
	}
	if !doc.Same(nil, lot()) || !doc.Same(lot(), nil) || !doc.Same(nil, nil) {
		t.Error("documents of no lines are not the same")
	}
	if !doc.Same(lot(line(0, lists(), 0, row()...)), lot(empty)) {
		t.Error("nil and empty lists are not one")
	}
	for i, pair := range [][2][]api.Line{
		{lot(plain), lot(plain, empty)},
		{lot(plain, empty), lot(empty, plain)},
		{lot(empty), nil},
		{lot(plain), lot(line(1, nil, 0, a, b))},
		{lot(plain), lot(line(0, nil, 1, a, b))},
		{lot(plain), lot(line(0, lists(0), 0, a, b))},
		{lot(plain), lot(line(0, nil, 0, a, B))},
		{lot(plain), lot(line(0, nil, 0, a))},
	} {
		if doc.Same(pair[0], pair[1]) || doc.Same(pair[1], pair[0]) {
			t.Errorf("%d: %v and %v are the same", i, pair[0], pair[1])
		}
	}
}

func TestP7_1OwnAndSize(t *testing.T) {
	for _, d := range allKinds() {
		if got := doc.Own(d); !sameLines(got, d) {
			t.Errorf("Own(%.300v) = %.300v", d, got)
		}
		size := 0
		for _, l := range d {
			for range l.Cells {
				size++
			}
		}
		if got := doc.Size(d); got != size {
			t.Errorf("Size(%.300v) = %d, want %d", d, got, size)
		}
	}
}

func TestP7_1Is(t *testing.T) {
	for _, d := range small() {
		for _, p := range places(d) {
			if got, want := doc.Is(d, p), offsetOf(d, p) >= 0; got != want {
				t.Fatalf("Is(%v, %v) = %v", d, p, got)
			}
		}
	}
	for _, d := range long() {
		last := len(d) - 1
		end := len(d[last].Cells)
		if !doc.Is(d, pos(last, end)) || doc.Is(d, pos(last, end+1)) || doc.Is(d, pos(last+1, 0)) {
			t.Errorf("Is of the end of a document of %d lines", len(d))
		}
	}
}

func TestP7_2Clamp(t *testing.T) {
	for _, d := range small() {
		for _, p := range places(d) {
			want := pos(0, 0)
			switch {
			case len(d) == 0, p.Line < 0:
			case p.Line > len(d)-1:
				want = pos(len(d)-1, len(d[len(d)-1].Cells))
			case p.At < 0:
				want = pos(p.Line, 0)
			case p.At > len(d[p.Line].Cells):
				want = pos(p.Line, len(d[p.Line].Cells))
			default:
				want = p
			}
			if got := doc.Clamp(d, p); got != want {
				t.Fatalf("Clamp(%v, %v) = %v, want %v", d, p, got, want)
			}
		}
	}
}

func TestP7_2Cmp(t *testing.T) {
	at := slices.Concat(extremes, []int{-2, -1, 0, 1, 2})
	slices.Sort(at)
	var all []api.Pos
	for _, i := range at {
		for _, j := range at {
			all = append(all, pos(i, j))
		}
	}
	for i, p := range all {
		for j, q := range all {
			want := 0
			if i < j {
				want = -1
			} else if i > j {
				want = 1
			}
			if got := doc.Cmp(p, q); got != want {
				t.Fatalf("Cmp(%v, %v) = %d", p, q, got)
			}
		}
	}
}

func TestP7_2End(t *testing.T) {
	for _, d := range allKinds() {
		want := pos(0, 0)
		if all := steps(d); len(all) > 0 {
			want = all[len(all)-1]
		}
		if got := doc.End(d); got != want {
			t.Errorf("End(%.300v) = %v, want %v", d, got, want)
		}
	}
}

func TestP7_3Offset(t *testing.T) {
	for _, d := range small() {
		for _, p := range places(d) {
			got, err := doc.Offset(d, p)
			switch want := offsetOf(d, p); {
			case want < 0 && (err != api.ErrArg || got != 0):
				t.Fatalf("Offset(%v, %v) = %d, %d, want ErrArg", d, p, got, err)
			case want >= 0 && (err != api.OK || got != want):
				t.Fatalf("Offset(%v, %v) = %d, %d, want %d", d, p, got, err, want)
			}
		}
	}
}

func TestP7_3At(t *testing.T) {
	for _, d := range small() {
		all := steps(d)
		numbers := slices.Clone(extremes)
		for i := -3; i <= len(all)+3; i++ {
			numbers = append(numbers, i)
		}
		for _, i := range numbers {
			want, ok := pos(0, 0), api.ErrArg
			if i >= 0 && i < len(all) {
				want, ok = all[i], api.OK
			}
			if got, err := doc.At(d, i); err != ok || got != want {
				t.Fatalf("At(%v, %d) = %v, %d, want %v, %d", d, i, got, err, want, ok)
			}
		}
	}
}

func TestP7_3OffsetAndAtOfLongDocuments(t *testing.T) {
	for _, d := range slices.Concat(full(), long()) {
		all := steps(d)
		for i, p := range all {
			if i > 50 && i < len(all)-50 && i%97 > 0 {
				continue
			}
			offset, err := doc.Offset(d, p)
			at, err2 := doc.At(d, i)
			if offset != i || at != p || err != api.OK || err2 != api.OK {
				t.Fatalf("the place %v, number %d: Offset %d, %d; At %v, %d", p, i, offset, err, at, err2)
			}
		}
		if at, err := doc.At(d, len(all)); err != api.ErrArg || at != pos(0, 0) {
			t.Fatalf("At behind the end: %v, %d", at, err)
		}
	}
}

func TestP7_3Step(t *testing.T) {
	for _, d := range small() {
		all := steps(d)
		numbers := slices.Concat(extremes, []int{-13, -12, -11, -10, -9, -8, -6, -5, -4, -3, -2, -1, 0, 1, 2, 3, 4, 5, 6, 7, 8, 9, 10, 11, 12, 13})
		for _, p := range places(d) {
			from := slices.Index(all, doc.Clamp(d, p))
			for _, by := range numbers {
				want, there := pos(0, 0), false
				switch {
				case len(all) == 0:
				case by < -from:
					want = all[0]
				case by >= len(all), from+by >= len(all):
					want = all[len(all)-1]
				default:
					want, there = all[from+by], true
				}
				if got, ok := doc.Step(d, p, by); got != want || ok != there {
					t.Fatalf("Step(%v, %v, %d) = %v, %v, want %v, %v", d, p, by, got, ok, want, there)
				}
			}
		}
	}
}

func TestP7_3StepThroughLongDocuments(t *testing.T) {
	for _, d := range slices.Concat(full(), long()) {
		all := steps(d)
		last := len(all) - 1
		for _, c := range []struct {
			from, by, to int
			ok           bool
		}{{0, last, last, true}, {0, last + 1, last, false}, {last, -last, 0, true}, {last, -last - 1, 0, false}, {last / 2, math.MaxInt, last, false}, {last / 2, math.MinInt, 0, false}, {0, math.MinInt, 0, false}, {last, math.MaxInt, last, false}, {last / 2, 1, last/2 + 1, true}, {last / 2, -1, last/2 - 1, true}} {
			if got, ok := doc.Step(d, all[c.from], c.by); got != all[c.to] || ok != c.ok {
				t.Fatalf("%d steps: Step(%v, %d) = %v, %v", last, all[c.from], c.by, got, ok)
			}
		}
	}
}

// eachAsked calls do with every two places of the documents between which may be asked, and with their Offsets.
func eachAsked(all [][]api.Line, do func(d []api.Line, p, q api.Pos, from, to int)) {
	for _, d := range all {
		at := steps(d)
		for to, q := range at {
			for from, p := range at[:to+1] {
				do(d, p, q, from, to)
			}
		}
	}
}

// walk goes through a document: what is told of each cell, and of each line's end, is whether it stands between the Offsets.
func walk(d []api.Line, from, to int, cell func(line int, c api.Cell, in bool), end func(line int, in bool)) {
	step := 0
	in := func() bool {
		step++
		return step > from && step <= to
	}
	for i, l := range d {
		for _, c := range l.Cells {
			cell(i, c, in())
		}
		end(i, in() && i < len(d)-1)
	}
}

// partOf is what Part answers.
func partOf(d []api.Line, from, to int) []api.Line {
	at := steps(d)
	var part []api.Line
	for i := at[from].Line; i <= at[to].Line; i++ {
		part = append(part, frame(d[i]))
	}
	walk(d, from, to, func(i int, c api.Cell, in bool) {
		if in {
			l := &part[i-at[from].Line]
			l.Cells = append(l.Cells, c)
		}
	}, func(i int, in bool) {})
	return part
}

// deleted is what Delete answers: where the end of a line is gone, the next one's cells stand behind its own.
func deleted(d []api.Line, from, to int) []api.Line {
	now := frame(d[0])
	var left []api.Line
	walk(d, from, to, func(i int, c api.Cell, in bool) {
		if !in {
			now.Cells = append(now.Cells, c)
		}
	}, func(i int, in bool) {
		if in {
			return
		}
		left = append(left, now)
		if i+1 < len(d) {
			now = frame(d[i+1])
		}
	})
	return left
}

// changed is the document in which each cell between has what do makes of it.
func changed(d []api.Line, from, to int, do func(c api.Cell) api.Cell) []api.Line {
	var all []api.Line
	for _, l := range d {
		all = append(all, frame(l))
	}
	walk(d, from, to, func(i int, c api.Cell, in bool) {
		if in {
			c = do(c)
		}
		all[i].Cells = append(all[i].Cells, c)
	}, func(i int, in bool) {})
	return all
}

// cellsBetween are those that stand between, of whatever lines.
func cellsBetween(d []api.Line, from, to int) []api.Cell {
	var all []api.Cell
	walk(d, from, to, func(i int, c api.Cell, in bool) {
		if in {
			all = append(all, c)
		}
	}, func(i int, in bool) {})
	return all
}

func TestP7_4Part(t *testing.T) {
	eachAsked(good(), func(d []api.Line, p, q api.Pos, from, to int) {
		got, err := doc.Part(d, p, q)
		wantLines(t, got, err, partOf(d, from, to))
	})
}

func TestP7_4Delete(t *testing.T) {
	eachAsked(good(), func(d []api.Line, p, q api.Pos, from, to int) {
		got, err := doc.Delete(d, p, q)
		wantLines(t, got, err, deleted(d, from, to))
	})
}

func TestP7_4PartAndDeleteOfFullDocuments(t *testing.T) {
	for _, d := range full() {
		last := len(steps(d)) - 1
		for _, at := range [][2]int{{0, 0}, {0, last}, {last, last}, {last / 3, last / 2}, {1, last}, {0, last - 1}} {
			p, _ := doc.At(d, at[0])
			q, _ := doc.At(d, at[1])
			got, err := doc.Part(d, p, q)
			wantLines(t, got, err, partOf(d, at[0], at[1]))
			got, err = doc.Delete(d, p, q)
			wantLines(t, got, err, deleted(d, at[0], at[1]))
		}
	}
}

// inserted is the document with these at the Offset.
func inserted(d []api.Line, at api.Pos, l []api.Cell) []api.Line {
	all := clone(d)
	var now []api.Cell
	for i := range len(d[at.Line].Cells) + 1 {
		if i == at.At {
			now = append(now, l...)
		}
		if i < len(d[at.Line].Cells) {
			now = append(now, d[at.Line].Cells[i])
		}
	}
	all[at.Line].Cells = now
	return all
}

func TestP7_4Insert(t *testing.T) {
	for _, d := range good() {
		for _, p := range steps(d) {
			for _, l := range [][]api.Cell{nil, {}, row(a), row(n), row(I, n, L)} {
				got, at, err := doc.Insert(d, p, l...)
				wantAt(t, got, at, err, inserted(d, p, l), pos(p.Line, p.At+len(l)))
			}
			got, at, err := doc.Insert(d, p, d[p.Line].Cells...)
			wantAt(t, got, at, err, inserted(d, p, d[p.Line].Cells), pos(p.Line, p.At+len(d[p.Line].Cells)))
		}
	}
}

func TestP7_4InsertOfCellsThatMayNotBe(t *testing.T) {
	for _, d := range slices.Concat(few(), full()) {
		for _, l := range [][]api.Cell{row(W), row(a, W), row(cell('a', 16, "")), row(cell('a', 0, " x")), row(cell(9, 0, "")), append(cellsOf(5000), W)} {
			got, at, err := doc.Insert(d, doc.End(d), l...)
			wantErr(t, got, at, err, api.ErrArg)
		}
	}
}

func TestP7_4InsertUpToTheLimit(t *testing.T) {
	for _, each := range []int{0, 1, 1999} {
		d := linesOf(2, each)
		for _, p := range []api.Pos{pos(0, 0), pos(0, each), pos(1, 0), pos(1, each)} {
			for more := 4000 - 2*each - 2; more <= 4000-2*each+3; more++ {
				l := cellsOf(more)
				got, at, err := doc.Insert(d, p, l...)
				if 2*each+more > 4000 {
					wantErr(t, got, at, err, api.ErrLong)
					continue
				}
				wantAt(t, got, at, err, inserted(d, p, l), pos(p.Line, p.At+more))
			}
			got, at, err := doc.Insert(d, p, cellsOf(100000)...)
			wantErr(t, got, at, err, api.ErrLong)
		}
	}
	for _, d := range full() {
		if doc.Size(d) < 4000 {
			continue
		}
		got, at, err := doc.Insert(d, pos(0, 1))
		wantAt(t, got, at, err, d, pos(0, 1))
		got, at, err = doc.Insert(d, pos(0, 1), a)
		wantErr(t, got, at, err, api.ErrLong)
	}
}

// split is the document with that line as two.
func split(d []api.Line, p api.Pos) []api.Line {
	var all []api.Line
	for i, l := range d {
		all = append(all, clone(lot(l))...)
		if i != p.Line {
			continue
		}
		behind := frame(l)
		behind.Cells = slices.Clone(l.Cells[p.At:])
		if p.At == len(l.Cells) {
			behind.Kind = 0
		}
		all[i].Cells = slices.Clone(l.Cells[:p.At])
		all = append(all, behind)
	}
	return all
}

func TestP7_4Split(t *testing.T) {
	for _, d := range good() {
		for _, p := range steps(d) {
			got, at, err := doc.Split(d, p)
			wantAt(t, got, at, err, split(d, p), pos(p.Line+1, 0))
		}
	}
}

func TestP7_4SplitUpToTheLimit(t *testing.T) {
	for _, count := range []int{1, 198, 199, 200} {
		d := linesOf(count, 20)
		for _, p := range []api.Pos{pos(0, 0), pos(0, 20), pos(count-1, 0), pos(count-1, 7), pos(count/2, 20)} {
			got, at, err := doc.Split(d, p)
			if count == 200 {
				wantErr(t, got, at, err, api.ErrLong)
				continue
			}
			wantAt(t, got, at, err, split(d, p), pos(p.Line+1, 0))
		}
	}
}

func TestP7_5Set(t *testing.T) {
	for _, set := range bitsOf {
		for _, clear := range bitsOf {
			setAndClear(t, few(), set, clear)
		}
	}
	setAndClear(t, good(), 1, 0)
	setAndClear(t, good(), 4, 3)
}

func setAndClear(t *testing.T, all [][]api.Line, set, clear int) {
	t.Helper()
	eachAsked(all, func(d []api.Line, p, q api.Pos, from, to int) {
		got, err := doc.Set(d, p, q, set, clear)
		if len(cellsBetween(d, from, to)) == 0 {
			wantErr(t, got, pos(0, 0), err, api.ErrOff)
			return
		}
		wantLines(t, got, err, changed(d, from, to, func(c api.Cell) api.Cell {
			c.Bits = c.Bits&^(clear&15) | set&15
			return c
		}))
	})
}

func TestP7_5Link(t *testing.T) {
	for _, href := range targets {
		eachAsked(good(), func(d []api.Line, p, q api.Pos, from, to int) {
			got, err := doc.Link(d, p, q, href)
			if len(cellsBetween(d, from, to)) == 0 {
				wantErr(t, got, pos(0, 0), err, api.ErrOff)
				return
			}
			wantLines(t, got, err, changed(d, from, to, func(c api.Cell) api.Cell {
				c.Href = href
				return c
			}))
		})
	}
}

// Also where no cell stands between, ErrArg is answered, not ErrOff.
func TestP7_5LinkOfNoTarget(t *testing.T) {
	for _, href := range badHrefs {
		eachAsked(few(), func(d []api.Line, p, q api.Pos, from, to int) {
			got, err := doc.Link(d, p, q, href)
			wantErr(t, got, pos(0, 0), err, api.ErrArg)
		})
	}
}

func TestP7_5AllSomeCount(t *testing.T) {
	eachAsked(slices.Concat(good(), few()), func(d []api.Line, p, q api.Pos, from, to int) {
		in := cellsBetween(d, from, to)
		for _, bits := range bitsOf {
			all, some := len(in) > 0, false
			for _, c := range in {
				all = all && c.Bits&bits == bits
				some = some || c.Bits&bits != 0
			}
			if got := doc.All(d, p, q, bits); got != all {
				t.Fatalf("All(%v, %v, %v, %d) = %v", d, p, q, bits, got)
			}
			if got := doc.Some(d, p, q, bits); got != some {
				t.Fatalf("Some(%v, %v, %v, %d) = %v", d, p, q, bits, got)
			}
		}
		if got := doc.Count(d, p, q); got != len(in) {
			t.Fatalf("Count(%v, %v, %v) = %d, want %d", d, p, q, got, len(in))
		}
	})
}

// asks are all calls that ask first for a document and two places, or one.
func asks(d []api.Line, p, q api.Pos) map[string]func() ([]api.Line, api.Pos, api.Errno) {
	none := pos(0, 0)
	lines := func(call func() ([]api.Line, api.Errno)) func() ([]api.Line, api.Pos, api.Errno) {
		return func() ([]api.Line, api.Pos, api.Errno) {
			got, err := call()
			return got, none, err
		}
	}
	return map[string]func() ([]api.Line, api.Pos, api.Errno){
		"Part":          lines(func() ([]api.Line, api.Errno) { return doc.Part(d, p, q) }),
		"Delete":        lines(func() ([]api.Line, api.Errno) { return doc.Delete(d, p, q) }),
		"Set":           lines(func() ([]api.Line, api.Errno) { return doc.Set(d, p, q, 1, 6) }),
		"Link":          lines(func() ([]api.Line, api.Errno) { return doc.Link(d, p, q, "y") }),
		"Insert":        func() ([]api.Line, api.Pos, api.Errno) { return doc.Insert(d, p, I, n) },
		"Insert, none":  func() ([]api.Line, api.Pos, api.Errno) { return doc.Insert(d, p) },
		"Insert, at q":  func() ([]api.Line, api.Pos, api.Errno) { return doc.Insert(d, q, I, n) },
		"Split":         func() ([]api.Line, api.Pos, api.Errno) { return doc.Split(d, p) },
		"Split, at q":   func() ([]api.Line, api.Pos, api.Errno) { return doc.Split(d, q) },
		"Set, of none":  lines(func() ([]api.Line, api.Errno) { return doc.Set(d, p, q, 0, 0) }),
		"Link, of none": lines(func() ([]api.Line, api.Errno) { return doc.Link(d, p, q, "") }),
	}
}

// atOne tells whether the call takes one place alone.
func atOne(name string) bool {
	return strings.HasPrefix(name, "Insert") || strings.HasPrefix(name, "Split")
}

// wantUnasked tells whether all calls with that document and these places say that this may not be asked.
func wantUnasked(t *testing.T, d []api.Line, p, q api.Pos, skip func(name string) bool) {
	t.Helper()
	for name, call := range asks(d, p, q) {
		if skip(name) {
			continue
		}
		if got, at, err := call(); err != api.ErrArg || len(got) > 0 || at != pos(0, 0) {
			t.Fatalf("%s(%.300v, %v, %v) = %.300v, %v, %d", name, d, p, q, got, at, err)
		}
	}
	for _, bits := range []int{0, 1, 2, 15} {
		if doc.All(d, p, q, bits) || doc.Some(d, p, q, bits) {
			t.Fatalf("All or Some(%.300v, %v, %v, %d)", d, p, q, bits)
		}
	}
	if got := doc.Count(d, p, q); got != 0 {
		t.Fatalf("Count(%.300v, %v, %v) = %d", d, p, q, got)
	}
}

func TestP7_4AndP7_5OfDocumentsThatMayNotBe(t *testing.T) {
	never := func(name string) bool { return false }
	for _, d := range bad() {
		wantUnasked(t, d, pos(0, 0), doc.End(d), never)
		wantUnasked(t, d, pos(0, 0), pos(0, 0), never)
		wantUnasked(t, d, doc.End(d), doc.End(d), never)
		wantUnasked(t, d, pos(0, 1), pos(0, 2), never)
	}
}

func TestP7_4AndP7_5OfPlacesThatMayNotBe(t *testing.T) {
	for _, d := range few() {
		for _, wrong := range places(d) {
			if offsetOf(d, wrong) >= 0 {
				continue
			}
			wantUnasked(t, d, wrong, wrong, func(name string) bool { return false })
			for _, p := range steps(d) {
				wantUnasked(t, d, wrong, p, func(name string) bool { return strings.HasSuffix(name, "at q") })
				wantUnasked(t, d, p, wrong, func(name string) bool { return atOne(name) && !strings.HasSuffix(name, "at q") })
			}
		}
	}
}

func TestP7_4AndP7_5OfPlacesTurnedRound(t *testing.T) {
	eachAsked(slices.Concat(few(), good()[:43]), func(d []api.Line, p, q api.Pos, from, to int) {
		if from < to {
			wantUnasked(t, d, q, p, atOne)
		}
	})
}

// At the limits what may not be asked has ErrArg, not ErrLong; and what stands first in the document is asked first.
func TestP7_4ErrArgComesFirst(t *testing.T) {
	for _, d := range full() {
		for _, p := range []api.Pos{pos(-1, 0), pos(0, -1), pos(len(d), 0), pos(0, 4001), pos(math.MaxInt, math.MaxInt), pos(math.MinInt, 0)} {
			got, at, err := doc.Split(d, p)
			wantErr(t, got, at, err, api.ErrArg)
			got, at, err = doc.Insert(d, p, cellsOf(4001)...)
			wantErr(t, got, at, err, api.ErrArg)
		}
	}
	for _, d := range long() {
		got, at, err := doc.Split(d, pos(0, 0))
		wantErr(t, got, at, err, api.ErrArg)
		got, at, err = doc.Insert(d, pos(0, 0), cellsOf(4001)...)
		wantErr(t, got, at, err, api.ErrArg)
		got, at, err = doc.Insert(d, pos(0, 0))
		wantErr(t, got, at, err, api.ErrArg)
	}
}

// withRoom is the document with more behind the end of each of its lists, which nobody may change.
func withRoom(d []api.Line) []api.Line {
	all := make([]api.Line, 0, len(d)+2)
	for _, l := range d {
		l.Lists = append(slices.Clone(l.Lists), 7, 8, 9)[:len(l.Lists)]
		l.Cells = append(slices.Clone(l.Cells), W, L, W)[:len(l.Cells)]
		all = append(all, l)
	}
	return append(all, line(9, lists(9), 9, W), line(8, nil, 8))[:len(d)]
}

// whole tells the document with what is behind its lists' ends.
func whole(d []api.Line) []api.Line {
	var all []api.Line
	for _, l := range d[:cap(d)] {
		all = append(all, line(l.Quote, l.Lists[:cap(l.Lists)], l.Kind, l.Cells[:cap(l.Cells)]...))
	}
	return clone(all)
}

// spoil writes over all lists of the document, and over the room behind them.
func spoil(d []api.Line) {
	all := d[:cap(d)]
	for i := range all {
		in, row := all[i].Lists[:cap(all[i].Lists)], all[i].Cells[:cap(all[i].Cells)]
		for j := range in {
			in[j] = -99
		}
		for j := range row {
			row[j] = cell('!', 99, "spoilt")
		}
		all[i] = line(-9, nil, -9)
	}
}

// answering are all calls that answer lines.
func answering(d []api.Line, p, q api.Pos, more []api.Cell) map[string]func() []api.Line {
	all := map[string]func() []api.Line{
		"Own": func() []api.Line { return doc.Own(d) },
		"Insert, more": func() []api.Line {
			got, _, _ := doc.Insert(d, p, more...)
			return got
		},
	}
	for name, call := range asks(d, p, q) {
		all[name] = func() []api.Line {
			got, _, _ := call()
			return got
		}
	}
	return all
}

func TestP7_6WhatIsHandedInStays(t *testing.T) {
	eachAsked(few(), func(given []api.Line, p, q api.Pos, from, to int) {
		d := withRoom(given)
		room := append(row(I, n), W, W)
		before := whole(d)
		for name, call := range answering(d, p, q, room[:2]) {
			first := call()
			kept := clone(first)
			second := call()
			spoil(first)
			if !sameLines(whole(d), before) || !slices.Equal(room, row(I, n, W, W)) {
				t.Fatalf("%s has changed %v", name, before)
			}
			if !sameLines(second, kept) || !sameLines(call(), kept) {
				t.Fatalf("%s(%v, %v, %v): an answer hangs on another one", name, d, p, q)
			}
		}
	})
}

func TestP7_6WhatIsAskedStays(t *testing.T) {
	for _, given := range few() {
		d := withRoom(given)
		before := whole(d)
		for _, p := range places(d) {
			doc.Is(d, p)
			doc.Clamp(d, p)
			doc.Offset(d, p)
			doc.Step(d, p, 1)
			doc.At(d, p.At)
			doc.All(d, p, doc.End(d), 1)
			doc.Some(d, p, doc.End(d), 1)
			doc.Count(d, p, doc.End(d))
		}
		doc.May(d)
		doc.Same(d, d)
		doc.Size(d)
		doc.End(d)
		if !sameLines(whole(d), before) {
			t.Fatalf("a call has changed %v", before)
		}
	}
}

func TestP7_6AnswersDoNotFollowTheirArguments(t *testing.T) {
	eachAsked(few(), func(given []api.Line, p, q api.Pos, from, to int) {
		for name := range answering(given, p, q, nil) {
			d, more := withRoom(given), row(I, n)
			got := answering(d, p, q, more)[name]()
			kept := clone(got)
			spoil(d)
			more[0], more[1] = W, W
			if !sameLines(got, kept) {
				t.Fatalf("%s(%v, %v, %v) has followed: %v", name, given, p, q, got)
			}
		}
	})
}

func TestP7_6ListsOfAnAnswerShareNothing(t *testing.T) {
	eachAsked(few(), func(d []api.Line, p, q api.Pos, from, to int) {
		for name, call := range answering(d, p, q, d[p.Line].Cells) {
			got := call()
			for i := range got {
				kept := clone(got)
				spoil(got[i : i+1 : i+1])
				kept[i] = got[i]
				if !sameLines(got, kept) {
					t.Fatalf("%s(%v, %v, %v): line %d shares memory with another one", name, d, p, q, i)
				}
			}
		}
	})
}

// One line twice in a document stays two lines when one of them is changed.
func TestP7_6LinesThatShareMemory(t *testing.T) {
	d := lot(listed, listed, listed)
	got, err := doc.Set(d, pos(1, 0), pos(1, 3), 8, 0)
	wantLines(t, got, err, lot(listed, line(1, lists(0, 1), 0, cell('b', 9, ""), cell(10, 12, ""), cell('l', 10, "x")), listed))
	got, err = doc.Delete(d, pos(0, 1), pos(0, 2))
	wantLines(t, got, err, lot(line(1, lists(0, 1), 0, B, L), listed, listed))
}

func TestP7_7AtAndOffset(t *testing.T) {
	for _, d := range small() {
		for i, p := range steps(d) {
			offset, err := doc.Offset(d, p)
			back, err2 := doc.At(d, offset)
			if err != api.OK || err2 != api.OK || back != p {
				t.Fatalf("At of Offset of %v in %v: %v", p, d, back)
			}
			at, err := doc.At(d, i)
			again, err2 := doc.Offset(d, at)
			if err != api.OK || err2 != api.OK || again != i {
				t.Fatalf("Offset of At of %d in %v: %d", i, d, again)
			}
		}
	}
}

func TestP7_7AStepOnAndAStepBack(t *testing.T) {
	for _, d := range small() {
		all := steps(d)
		for i, p := range all {
			on, ok := doc.Step(d, p, 1)
			if ok != (i < len(all)-1) {
				t.Fatalf("Step(%v, %v, 1): %v", d, p, ok)
			}
			if back, there := doc.Step(d, on, -1); ok && (back != p || !there) {
				t.Fatalf("a step on from %v in %v, and one back: %v, %v", p, d, back, there)
			}
			back, ok := doc.Step(d, p, -1)
			if ok != (i > 0) {
				t.Fatalf("Step(%v, %v, -1): %v", d, p, ok)
			}
			if on, there := doc.Step(d, back, 1); ok && (on != p || !there) {
				t.Fatalf("a step back from %v in %v, and one on: %v, %v", p, d, on, there)
			}
		}
	}
}

func TestP7_7CmpIsThatOfOffsets(t *testing.T) {
	for _, d := range small() {
		all := steps(d)
		for i, p := range all {
			for j, q := range all {
				if got := doc.Cmp(p, q); got < 0 != (i < j) || got > 0 != (i > j) {
					t.Fatalf("Cmp(%v, %v) = %d, of the Offsets %d, %d", p, q, got, i, j)
				}
			}
		}
	}
}

func TestP7_8WhatWasPutInDeleted(t *testing.T) {
	for _, d := range good() {
		for _, p := range steps(d) {
			with, behind, err := doc.Insert(d, p, L, n, a)
			if err != api.OK {
				t.Fatalf("Insert(%v, %v): %d", d, p, err)
			}
			part, err := doc.Part(with, p, behind)
			wantLines(t, part, err, lot(line(d[p.Line].Quote, d[p.Line].Lists, d[p.Line].Kind, L, n, a)))
			back, err := doc.Delete(with, p, behind)
			wantLines(t, back, err, d)
			two, begin, err := doc.Split(d, p)
			if err != api.OK {
				t.Fatalf("Split(%v, %v): %d", d, p, err)
			}
			back, err = doc.Delete(two, p, begin)
			wantLines(t, back, err, d)
		}
	}
}

func TestP7_8DeleteLeavesTheParts(t *testing.T) {
	eachAsked(good(), func(d []api.Line, p, q api.Pos, from, to int) {
		left, err := doc.Delete(d, p, q)
		ahead, err2 := doc.Part(d, pos(0, 0), p)
		behind, err3 := doc.Part(d, q, doc.End(d))
		if err2 != api.OK || err3 != api.OK {
			t.Fatalf("Part of %v: %d, %d", d, err2, err3)
		}
		last := len(ahead) - 1
		one, err4 := lines.Join(ahead[last], behind[0])
		if err4 != api.OK {
			t.Fatalf("Join(%v, %v): %d", ahead[last], behind[0], err4)
		}
		wantLines(t, left, err, slices.Concat(ahead[:last], lot(one), behind[1:]))
		if got := doc.Size(left); got != doc.Size(d)-doc.Count(d, p, q) {
			t.Fatalf("Size falls to %d, of %v without %v to %v", got, d, p, q)
		}
	})
}

func TestP7_9WhatIsAnsweredMayBe(t *testing.T) {
	done := map[string]int{}
	at := func(d []api.Line, p, q api.Pos, from, to int) {
		for name, call := range asks(d, p, q) {
			got, place, err := call()
			if err != api.OK {
				continue
			}
			done[name]++
			if !doc.May(got) {
				t.Fatalf("%s(%.300v, %v, %v) = %.300v, which may not be", name, d, p, q, got)
			}
			if !doc.Is(got, place) {
				t.Fatalf("%s(%.300v, %v, %v) answers %v, which is no place of it", name, d, p, q, place)
			}
		}
	}
	eachAsked(slices.Concat(few(), good()[:43]), at)
	for _, d := range slices.Concat(full(), [][]api.Line{linesOf(199, 20), linesOf(1, 3998)}) {
		at(d, pos(0, 0), doc.End(d), 0, 0)
		at(d, pos(0, 1), doc.End(d), 0, 0)
		at(d, doc.End(d), doc.End(d), 0, 0)
	}
	for name := range asks(nil, pos(0, 0), pos(0, 0)) {
		if done[name] == 0 {
			t.Errorf("%s has never answered OK", name)
		}
	}
}

func TestP7_9PlacesMayBe(t *testing.T) {
	for _, d := range slices.Concat(good(), few(), full()) {
		for _, p := range []api.Pos{pos(-1, 5), pos(0, -1), pos(0, 5000), pos(1, 1), pos(500, -1), pos(math.MaxInt, math.MinInt)} {
			on, _ := doc.Step(d, p, 2)
			back, _ := doc.Step(d, p, -2)
			if !doc.Is(d, doc.Clamp(d, p)) || !doc.Is(d, doc.End(d)) || !doc.Is(d, on) || !doc.Is(d, back) {
				t.Fatalf("places by %v that may not be in %.300v", p, d)
			}
		}
	}
}

func TestExamplesOfOffsetAndAt(t *testing.T) {
	if got, err := doc.Offset(example, pos(1, 0)); got != 3 || err != api.OK {
		t.Errorf("Offset: %d, %d", got, err)
	}
	if got, err := doc.At(example, 2); got != pos(0, 2) || err != api.OK {
		t.Errorf("At 2: %v, %d", got, err)
	}
	if got, err := doc.At(example, 5); got != pos(0, 0) || err != api.ErrArg {
		t.Errorf("At 5: %v, %d", got, err)
	}
	if got := doc.End(example); got != pos(1, 1) {
		t.Errorf("End: %v", got)
	}
}

func TestExamplesOfStepAndClamp(t *testing.T) {
	if got, ok := doc.Step(example, pos(0, 2), 1); got != pos(1, 0) || !ok {
		t.Errorf("Step on: %v, %v", got, ok)
	}
	if got, ok := doc.Step(example, pos(0, 1), -3); got != pos(0, 0) || ok {
		t.Errorf("Step back: %v, %v", got, ok)
	}
	if got := doc.Clamp(example, pos(-1, 5)); got != pos(0, 0) {
		t.Errorf("Clamp of -1 5: %v", got)
	}
	if got := doc.Clamp(example, pos(9, 0)); got != pos(1, 1) {
		t.Errorf("Clamp of 9 0: %v", got)
	}
}

func TestExamplesOfDeleteAndPart(t *testing.T) {
	got, err := doc.Delete(example, pos(0, 1), pos(1, 0))
	wantLines(t, got, err, lot(line(0, nil, 0, a, c)))
	got, err = doc.Part(example, pos(0, 1), pos(1, 1))
	wantLines(t, got, err, lot(line(0, nil, 0, b), heading))
}

func TestExamplesOfSplit(t *testing.T) {
	got, at, err := doc.Split(example, pos(1, 1))
	wantAt(t, got, at, err, lot(plain, heading, empty), pos(2, 0))
}

func TestExamplesOfSetAndAll(t *testing.T) {
	got, err := doc.Set(example, pos(0, 2), pos(1, 0), 1, 0)
	wantErr(t, got, pos(0, 0), err, api.ErrOff)
	if doc.All(example, pos(0, 2), pos(1, 0), 0) {
		t.Error("All of no cells")
	}
}

// Documents of no lines have no places: zero is answered, ErrArg or false beside it.
func TestP7_3OfNoLines(t *testing.T) {
	for _, d := range [][]api.Line{nil, {}} {
		for _, p := range places(d) {
			if got, err := doc.Offset(d, p); got != 0 || err != api.ErrArg {
				t.Fatalf("Offset(none, %v) = %d, %d", p, got, err)
			}
			for _, by := range []int{p.Line, p.At, 0, 1, -1} {
				if got, ok := doc.Step(d, p, by); got != pos(0, 0) || ok {
					t.Fatalf("Step(none, %v, %d) = %v, %v", p, by, got, ok)
				}
				if got, err := doc.At(d, by); got != pos(0, 0) || err != api.ErrArg {
					t.Fatalf("At(none, %d) = %v, %d", by, got, err)
				}
			}
		}
	}
}

// What cells say of a row holds of all lines between, one behind the other.
func TestP7_5AsCellsSay(t *testing.T) {
	eachAsked(few(), func(d []api.Line, p, q api.Pos, from, to int) {
		in := cellsBetween(d, from, to)
		for _, bits := range bitsOf {
			if doc.All(d, p, q, bits) != cells.All(in, 0, len(in), bits) || doc.Some(d, p, q, bits) != cells.Some(in, 0, len(in), bits) {
				t.Fatalf("All or Some(%v, %v, %v, %d)", d, p, q, bits)
			}
		}
	})
}
