package dom_test

import (
	"fmt"
	"math"
	"slices"
	"strings"
	"testing"
	"unsafe"

	"quillwork/api"
	"quillwork/dom"
)

func attr(name, value string) api.Attr { return api.Attr{Name: name, Value: value} }

func row(l ...api.Attr) []api.Attr { return l }

func text(s string) api.Node { return api.Node{Text: s} }

func elem(tag int, kids ...api.Node) api.Node { return api.Node{Tag: tag, Kids: kids} }

func withAttrs(n api.Node, l ...api.Attr) api.Node {
	n.Attrs = l
	return n
}

// chain is so many elements within one another, around the kids.
func chain(count int, kids ...api.Node) api.Node {
	n := elem(api.TagB, kids...)
	for range count - 1 {
		n = elem(api.TagB, n)
	}
	return n
}

// wide is an element with so many kids.
func wide(count int) api.Node {
	n := elem(api.TagP)
	for range count {
		n.Kids = append(n.Kids, text("x"))
	}
	return n
}

func newTree(t *testing.T, capacity, depth int) *dom.Tree {
	t.Helper()
	tree, err := dom.New(capacity, depth)
	if err != api.OK || tree == nil {
		t.Fatalf("New(%d, %d) = %v, %d", capacity, depth, tree, err)
	}
	return tree
}

// grafted is a tree with these kids of its host, and a model of it.
func grafted(t *testing.T, capacity, depth int, kids ...api.Node) (*dom.Tree, *model) {
	t.Helper()
	tree, m := newTree(t, capacity, depth), newModel(capacity, depth)
	for i, n := range kids {
		wantID(t, i)(tree.Graft(0, i, n))(m.graft(0, i, n))
	}
	wantLike(t, tree, m)
	return tree, m
}

// wantID tells whether two calls, one behind the other, answer alike.
func wantID(t *testing.T, of any) func(id int, err api.Errno) func(id int, err api.Errno) {
	return func(got int, err api.Errno) func(id int, err api.Errno) {
		return func(want int, wantErr api.Errno) {
			t.Helper()
			if got != want || err != wantErr {
				t.Fatalf("%v: got %d, %d, want %d, %d", of, got, err, want, wantErr)
			}
		}
	}
}

func wantErr(t *testing.T, of string, got, want api.Errno) {
	t.Helper()
	if got != want {
		t.Fatalf("%s: got %d, want %d", of, got, want)
	}
}

func wantLike(t *testing.T, tree *dom.Tree, m *model) {
	t.Helper()
	if s := unlike(tree, m); s != "" {
		t.Fatalf("the tree is another than its model: %s", s)
	}
}

// call is one that changes a tree, and what it is of its model.
type call struct {
	name  string
	tree  func(t *dom.Tree) (int, api.Errno)
	model func(m *model) (int, api.Errno)
	// goes: whether what comes of it is looked at further
	goes bool
}

func zero(err api.Errno) (int, api.Errno) { return 0, err }

var (
	longText = strings.Repeat("x", 8193)
	tooDeep  = elem(api.TagP, elem(api.TagB, elem(api.TagI, elem(api.TagU, elem(api.TagS)))))
	wrong    = elem(0, text("x"))

	// plains are some plain trees: some that may be, and each set of faults that hides others.
	plains = []api.Node{
		text("a"), text("\xff"), elem(api.TagBr, text("")), elem(api.TagP, text("a"), elem(api.TagB)), elem(api.TagDiv, elem(api.TagLi, text("b"))),
		wrong, elem(-1), elem(17), {Tag: api.TagB, Text: "x"}, withAttrs(text("a"), attr("a", "")),
		text(longText), elem(api.TagP, text(longText), wrong), elem(api.TagP, wrong, text(longText)), tooDeep, elem(api.TagP, tooDeep, text(longText)), elem(api.TagP, tooDeep, wrong),
		wide(9), elem(api.TagP, wide(9), wrong), elem(api.TagP, wide(9), text(longText)), elem(api.TagP, wide(9), tooDeep), elem(api.TagP, tooDeep, wide(9), text(longText), wrong),
	}
)

// calls are some of each kind, of all numbers up to one above the capacity.
func calls(capacity int) []call {
	var l []call
	for _, tag := range []int{-1, 0, 1, 2, 16, 17} {
		l = append(l, call{fmt.Sprintf("Element(%d)", tag), func(t *dom.Tree) (int, api.Errno) { return t.Element(tag) }, func(m *model) (int, api.Errno) { return m.element(tag, nil) }, tag == 2})
	}
	for _, s := range []string{"a", "", longText} {
		l = append(l, call{fmt.Sprintf("Text(%.4q)", s), func(t *dom.Tree) (int, api.Errno) { return t.Text(s) }, func(m *model) (int, api.Errno) { return m.newText(s) }, s == "a"})
	}
	for id := -1; id <= capacity; id++ {
		for at := -1; at <= capacity; at++ {
			for kid := -1; kid <= capacity; kid++ {
				l = append(l, call{fmt.Sprintf("Insert(%d, %d, %d)", id, at, kid), func(t *dom.Tree) (int, api.Errno) { return zero(t.Insert(id, at, kid)) }, func(m *model) (int, api.Errno) { return zero(m.insert(id, at, kid)) }, true})
			}
			for i, n := range plains {
				l = append(l, call{fmt.Sprintf("Graft(%d, %d, plain %d)", id, at, i), func(t *dom.Tree) (int, api.Errno) { return t.Graft(id, at, n) }, func(m *model) (int, api.Errno) { return m.graft(id, at, n) }, false})
			}
		}
		l = append(l, callsOf(id)...)
	}
	return l
}

func callsOf(id int) []call {
	l := []call{
		{fmt.Sprintf("Remove(%d)", id), func(t *dom.Tree) (int, api.Errno) { return zero(t.Remove(id)) }, func(m *model) (int, api.Errno) { return zero(m.remove(id)) }, true},
		{fmt.Sprintf("Drop(%d)", id), func(t *dom.Tree) (int, api.Errno) { return zero(t.Drop(id)) }, func(m *model) (int, api.Errno) { return zero(m.drop(id)) }, true},
	}
	for _, tag := range []int{-1, 0, 1, 3, 16, 17} {
		l = append(l, call{fmt.Sprintf("SetTag(%d, %d)", id, tag), func(t *dom.Tree) (int, api.Errno) { return zero(t.SetTag(id, tag)) }, func(m *model) (int, api.Errno) { return zero(m.setTag(id, tag)) }, false})
	}
	for _, s := range []string{"b\x80", "", longText} {
		l = append(l, call{fmt.Sprintf("SetText(%d, %.4q)", id, s), func(t *dom.Tree) (int, api.Errno) { return zero(t.SetText(id, s)) }, func(m *model) (int, api.Errno) { return zero(m.setText(id, s)) }, false})
	}
	for _, a := range [][]api.Attr{nil, row(attr("a", "b"), attr("a", "b"), attr("", "\xff"))} {
		l = append(l, call{fmt.Sprintf("SetAttrs(%d, %q)", id, a), func(t *dom.Tree) (int, api.Errno) { return zero(t.SetAttrs(id, a...)) }, func(m *model) (int, api.Errno) { return zero(m.setAttrs(id, a)) }, false})
	}
	return l
}

// told is all that a model is, in one text.
func told(m *model) string {
	var b strings.Builder
	for id := range m.capacity {
		if p := m.find(id); p != nil {
			fmt.Fprint(&b, id, " ", p.tag, ":")
			for _, k := range p.kids {
				fmt.Fprint(&b, " ", k.id)
			}
			b.WriteByte(';')
		}
	}
	return b.String()
}

// pair is a tree, its model, and the calls that led to it.
type pair struct {
	tree  *dom.Tree
	model *model
	way   string
}

// after makes a call of a copy, and holds what is answered, and what comes of it, against the model.
func (p pair) after(t *testing.T, c call) (pair, bool) {
	t.Helper()
	q := pair{p.tree.Copy(), p.model.copy(), p.way + " " + c.name}
	got, err := c.tree(q.tree)
	want, wantErr := c.model(q.model)
	if got != want || err != wantErr {
		t.Fatalf("%s: got %d, %d, want %d, %d", q.way, got, err, want, wantErr)
	}
	if s := unlike(q.tree, q.model); s != "" {
		t.Fatalf("%s: another tree than the model: %s", q.way, s)
	}
	return q, err == api.OK
}

// walk makes each of the calls in every state to which they lead, and hands on each state.
func walk(t *testing.T, capacity, depth int, all []call, at func(p pair)) {
	t.Helper()
	work := []pair{{newTree(t, capacity, depth), newModel(capacity, depth), ""}}
	seen := map[string]bool{told(work[0].model): true}
	for len(work) > 0 {
		p := work[0]
		work = work[1:]
		at(p)
		for _, c := range all {
			q, ok := p.after(t, c)
			if s := told(q.model); ok && c.goes && !seen[s] {
				seen[s] = true
				work = append(work, q)
			}
		}
		if s := unlike(p.tree, p.model); s != "" {
			t.Fatalf("%s: what was copied is another: %s", p.way, s)
		}
	}
}

// leading are the calls that lead on to other states.
func leading(capacity int) []call {
	return slices.DeleteFunc(calls(capacity), func(c call) bool { return !c.goes })
}

// rooms are small: each state of them is come to.
var rooms = [][2]int{{1, 0}, {1, 3}, {2, 0}, {2, 1}, {3, 0}, {3, 1}, {3, 2}, {4, 1}, {4, 2}, {4, 40}}

func TestP8_1To7EveryCallInEveryState(t *testing.T) {
	for _, r := range rooms {
		t.Run(fmt.Sprint(r), func(t *testing.T) {
			t.Parallel()
			states := 0
			walk(t, r[0], r[1], calls(r[0]), func(p pair) { states++ })
			if r[0] == 4 && states < 100 {
				t.Errorf("%d states alone", states)
			}
		})
	}
}

func TestP8_1New(t *testing.T) {
	numbers := slices.Concat(far, []int{-2, -1, 0, 1, 2, 39, 40, 41, 1999})
	for _, capacity := range numbers {
		for _, depth := range numbers {
			tree, err := dom.New(capacity, depth)
			if capacity < 1 || capacity > 2000 || depth < 0 || depth > 40 {
				if tree != nil || err != api.ErrArg {
					t.Errorf("New(%d, %d) = %v, %d", capacity, depth, tree, err)
				}
				continue
			}
			if err != api.OK {
				t.Fatalf("New(%d, %d) = %d", capacity, depth, err)
			}
			wantLike(t, tree, newModel(capacity, depth))
		}
	}
}

func TestP8_1ATreeIsByItself(t *testing.T) {
	a, b := newTree(t, 5, 5), newTree(t, 5, 5)
	a.Element(api.TagP)
	a.Insert(0, 0, 1)
	wantLike(t, b, newModel(5, 5))
}

func TestP8_1Count(t *testing.T) {
	tree := newTree(t, 4, 4)
	for i, step := range []struct {
		do   func()
		want int
	}{
		{func() {}, 1},
		{func() { tree.Element(api.TagP) }, 2},
		{func() { tree.Text("x") }, 3},
		{func() { tree.Insert(1, 0, 2) }, 3},
		{func() { tree.Insert(0, 0, 1) }, 3},
		{func() { tree.Remove(1) }, 3},
		{func() { tree.Drop(1) }, 1},
	} {
		step.do()
		if got := tree.Count(); got != step.want {
			t.Errorf("%d: Count = %d, want %d", i, got, step.want)
		}
	}
}

func TestP8_1CopyGoesOnByItself(t *testing.T) {
	kids := []api.Node{elem(api.TagP, withAttrs(elem(api.TagA, text("x")), attr("href", "y")), text("z")), elem(api.TagP)}
	tree, m := grafted(t, 20, 10, kids...)
	tree.Element(api.TagB)
	m.element(api.TagB, nil)
	for _, change := range []func(t *dom.Tree, m *model){
		func(t *dom.Tree, m *model) { t.Remove(2); m.remove(2) },
		func(t *dom.Tree, m *model) { t.Insert(1, 0, 6); m.insert(1, 0, 6) },
		func(t *dom.Tree, m *model) { t.SetText(3, "other"); m.setText(3, "other") },
		func(t *dom.Tree, m *model) { t.SetAttrs(2, attr("b", "")); m.setAttrs(2, row(attr("b", ""))) },
		func(t *dom.Tree, m *model) { t.SetTag(2, api.TagB); m.setTag(2, api.TagB) },
		func(t *dom.Tree, m *model) { t.Drop(6); m.drop(6) },
		func(t *dom.Tree, m *model) { t.Text("x"); m.newText("x") },
		func(t *dom.Tree, m *model) { t.Graft(1, 1, kids[0]); m.graft(1, 1, kids[0]) },
	} {
		c, n := tree.Copy(), m.copy()
		change(c, n)
		wantLike(t, c, n)
		wantLike(t, tree, m)
		c, n = tree.Copy(), m.copy()
		was := m.copy()
		change(tree, m)
		wantLike(t, tree, m)
		wantLike(t, c, n)
		tree, m = c, was
	}
}

func TestP8_2Element(t *testing.T) {
	for _, tag := range slices.Concat(far, numbersFrom(-3, 25)) {
		tree, m := newTree(t, 3, 1), newModel(3, 1)
		for i := range 4 {
			l := row(attr("n", fmt.Sprint(i)), attr("", ""), attr("n", "\xffñ"))[:i%4]
			wantID(t, tag)(tree.Element(tag, l...))(m.element(tag, l))
			wantLike(t, tree, m)
		}
		if tree.Live(1) {
			t.Errorf("a new node of tag %d is not loose", tag)
		}
	}
}

func numbersFrom(from, to int) []int {
	var l []int
	for i := from; i < to; i++ {
		l = append(l, i)
	}
	return l
}

// Texts whose bytes are told in full: what stands for each.
var anew = []struct{ text, want string }{
	{"", ""},
	{"ab", "ab"},
	{"\x00\t\n\x7f", "\x00\t\n\x7f"},
	{"ñ€\U0001F600", "ñ€\U0001F600"},
	{"\uFFFD\uFFFE\uFEFF\U0010FFFF", "\uFFFD\uFFFE\uFEFF\U0010FFFF"},
	{"\xff", "\uFFFD"},
	{"a\x80\x80b", "a\uFFFD\uFFFDb"},
	{"\xe2\x82", "\uFFFD\uFFFD"},
	{"\xe2\x82x", "\uFFFD\uFFFDx"},
	{"\xed\xa0\x80", "\uFFFD\uFFFD\uFFFD"},
	{"\xc0\x80", "\uFFFD\uFFFD"},
	{"\xf4\x90\x80\x80", "\uFFFD\uFFFD\uFFFD\uFFFD"},
	{"\xf0\x9f\x98\xc3\xb1", "\uFFFD\uFFFD\uFFFDñ"},
}

func TestP8_2TextIsWrittenAnew(t *testing.T) {
	for _, c := range anew {
		tree := newTree(t, 4, 1)
		tree.Text(c.text)
		tree.Text("")
		tree.SetText(2, c.text)
		tree.Graft(0, 0, text(c.text))
		for id := 1; id <= 3; id++ {
			if got := tree.Told(id); got != c.want {
				t.Errorf("%q, node %d: Told = %q, want %q", c.text, id, got, c.want)
			}
		}
	}
}

func TestP8_2EachByteAtEachPlace(t *testing.T) {
	for _, around := range []string{"", "ab", "\xe2\x82", "\xf0\x9f\x98\x80", "ñ\xff"} {
		for at := range len(around) + 1 {
			for b := range 256 {
				s := around[:at] + string([]byte{byte(b)}) + around[at:]
				tree := newTree(t, 2, 1)
				tree.Text(s)
				if got, want := tree.Told(1), written(s); got != want {
					t.Fatalf("%q: Told = %q, want %q", s, got, want)
				}
			}
		}
	}
}

// lengths are texts around the limit, with many and with few bytes written anew.
func lengths() []string {
	var l []string
	for n := 8188; n < 8197; n++ {
		l = append(l, strings.Repeat("x", n), strings.Repeat("ñ", n/2)+strings.Repeat("x", n%2), strings.Repeat("\xff", n/3)+strings.Repeat("x", n%3), strings.Repeat("\xff", n), strings.Repeat("x", n-4)+"\xf0\x9f\x98\x80", strings.Repeat("\uFFFD", n/3)+"\xff")
	}
	return append(l, strings.Repeat("\xff", 2730)+"xx", strings.Repeat("\xff", 2730)+"xxx", strings.Repeat("x", 1<<20), "")
}

func TestP8_2TextByItsLength(t *testing.T) {
	for _, s := range lengths() {
		want := api.OK
		if len(written(s)) > 8192 {
			want = api.ErrLong
		}
		tree, m := newTree(t, 3, 1), newModel(3, 1)
		for range 3 {
			wantID(t, len(s))(tree.Text(s))(m.newText(s))
			wantID(t, len(s))(tree.Graft(0, 0, text(s)))(m.graft(0, 0, text(s)))
		}
		wantLike(t, tree, m)
		tree, m = grafted(t, 3, 1, text("was"))
		wantErr(t, "SetText", tree.SetText(1, s), want)
		wantErr(t, "SetText of the model", m.setText(1, s), want)
		wantErr(t, "SetText of an element", tree.SetText(0, s), api.ErrKind)
		wantErr(t, "SetText of no node", tree.SetText(2, s), api.ErrNone)
		wantLike(t, tree, m)
	}
}

func TestP8_2ErrLongComesAheadOfErrFull(t *testing.T) {
	tree := newTree(t, 1, 1)
	wantID(t, "long")(tree.Text(longText))(0, api.ErrLong)
	wantID(t, "no tag")(tree.Element(0))(0, api.ErrArg)
	wantID(t, "text")(tree.Text("x"))(0, api.ErrFull)
	wantID(t, "element")(tree.Element(1))(0, api.ErrFull)
}

func TestP8_2TheLeastNumber(t *testing.T) {
	tree, m := grafted(t, 9, 9, elem(api.TagP, text("a"), text("b")), elem(api.TagP, elem(api.TagB, text("c"))), text("d"))
	for _, ids := range [][]int{{3}, {1}, {7, 4}, {2, 5, 6}, {1, 4}} {
		for _, id := range ids {
			wantErr(t, "Remove", tree.Remove(id), m.remove(id))
			wantErr(t, "Drop", tree.Drop(id), m.drop(id))
		}
		for range 9 {
			wantID(t, ids)(tree.Element(api.TagU))(m.element(api.TagU, nil))
			wantLike(t, tree, m)
		}
	}
}

func TestP8_2AsManyNodesAsTheCapacitySays(t *testing.T) {
	for _, capacity := range []int{1, 2, 7, 1999, 2000} {
		tree := newTree(t, capacity, 0)
		for want := 1; want < capacity; want++ {
			if id, err := tree.Text("x"); id != want || err != api.OK {
				t.Fatalf("%d: Text = %d, %d, want %d", capacity, id, err, want)
			}
		}
		wantID(t, capacity)(tree.Text("x"))(0, api.ErrFull)
		wantID(t, capacity)(tree.Element(api.TagP))(0, api.ErrFull)
		if tree.Count() != capacity || tree.Has(capacity) {
			t.Errorf("%d: Count = %d", capacity, tree.Count())
		}
	}
}

func TestP8_3Insert(t *testing.T) {
	tree, m := newTree(t, 6, 2), newModel(6, 2)
	for range 5 {
		tree.Element(api.TagP)
		m.element(api.TagP, nil)
	}
	for _, c := range [][3]int{{0, 0, 1}, {0, 1, 2}, {0, 0, 3}, {0, 1, 4}, {2, 0, 5}, {5, 0, 1}} {
		wantErr(t, fmt.Sprint(c), tree.Insert(c[0], c[1], c[2]), m.insert(c[0], c[1], c[2]))
		wantLike(t, tree, m)
	}
	if got, want := tree.Kids(0), []int{3, 4, 1, 2}; !slices.Equal(got, want) {
		t.Errorf("Kids = %v, want %v", got, want)
	}
}

// The errors of Insert, each with all that stand behind it, and none ahead.
func TestP8_3InsertsErrorsInTheirOrder(t *testing.T) {
	// host(p 1 (b 2)), "x" 3 and "y" 4 loose; i 5 (u 6 (s 7)) loose
	tree := newTree(t, 9, 3)
	tree.Graft(0, 0, elem(api.TagP, elem(api.TagB)))
	tree.Text("x")
	tree.Text("y")
	for i, tag := range []int{api.TagI, api.TagU, api.TagS} {
		tree.Element(tag)
		if i > 0 {
			tree.Insert(4+i, 0, 5+i)
		}
	}
	for _, c := range []struct {
		parent, at, kid int
		want            api.Errno
	}{
		{9, -1, 9, api.ErrNone}, {8, 0, 3, api.ErrNone}, {-1, 0, 3, api.ErrNone}, {3, 9, 8, api.ErrNone}, {0, 9, -1, api.ErrNone}, {3, 0, math.MaxInt, api.ErrNone},
		{3, 0, 3, api.ErrKind}, {3, 9, 0, api.ErrKind}, {3, -1, 1, api.ErrKind}, {3, 0, 5, api.ErrKind}, {3, 0, 4, api.ErrKind},
		{0, 0, 1, api.ErrArg}, {0, 1, 1, api.ErrArg}, {1, 0, 2, api.ErrArg}, {2, 0, 2, api.ErrArg}, {2, 0, 1, api.ErrArg}, {0, 0, 0, api.ErrArg}, {1, 0, 0, api.ErrArg}, {5, 1, 0, api.ErrArg},
		{5, 2, 5, api.ErrArg}, {7, -1, 5, api.ErrArg}, {7, 1, 5, api.ErrArg}, {2, 1, 5, api.ErrArg}, {0, 2, 3, api.ErrArg}, {0, -1, 3, api.ErrArg}, {0, math.MinInt, 3, api.ErrArg}, {0, math.MaxInt, 3, api.ErrArg},
		{5, 0, 5, api.ErrLoop}, {5, 1, 5, api.ErrLoop}, {6, 0, 5, api.ErrLoop}, {7, 0, 5, api.ErrLoop},
		{1, 0, 5, api.ErrDeep}, {2, 0, 5, api.ErrDeep},
		{2, 0, 3, api.OK}, {7, 0, 4, api.OK}, {0, 1, 5, api.ErrDeep},
	} {
		was := tree.Copy()
		got := tree.Insert(c.parent, c.at, c.kid)
		wantErr(t, fmt.Sprint(c), got, c.want)
		if c.want != api.OK {
			wantSame(t, tree, was)
		}
	}
	tree.Remove(4)
	wantErr(t, "as deep as may be", tree.Insert(0, 0, 5), api.OK)
}

// wantSame tells whether two trees say the same of all numbers.
func wantSame(t *testing.T, a, b *dom.Tree) {
	t.Helper()
	c, d := a.Room()
	if e, f := b.Room(); c != e || d != f || a.Count() != b.Count() {
		t.Fatalf("Room or Count")
	}
	for id := -1; id <= c; id++ {
		if a.Has(id) != b.Has(id) || a.Tag(id) != b.Tag(id) || a.Told(id) != b.Told(id) || a.Parent(id) != b.Parent(id) || a.Index(id) != b.Index(id) || !slices.Equal(a.Attrs(id), b.Attrs(id)) || !slices.Equal(a.Kids(id), b.Kids(id)) {
			t.Fatalf("node %d", id)
		}
	}
}

func TestP8_3AsDeepAsTheDepthSays(t *testing.T) {
	for depth := range 41 {
		tree := newTree(t, 50, depth)
		for range 49 {
			tree.Element(api.TagB)
		}
		for id := 1; id <= depth; id++ {
			wantErr(t, "from the host down", tree.Insert(id-1, 0, id), api.OK)
		}
		wantErr(t, "one deeper", tree.Insert(depth, 0, depth+1), api.ErrDeep)
		if h, d := tree.Height(0), tree.Depth(depth); h != depth || d != depth {
			t.Errorf("%d: Height = %d, Depth = %d", depth, h, d)
		}
	}
}

func TestP8_3LooseOnesAsDeepAsTheDepthSays(t *testing.T) {
	for depth := range 41 {
		tree := newTree(t, 50, depth)
		for range 49 {
			tree.Element(api.TagB)
		}
		top := depth + 1
		for id := 2; id <= top; id++ {
			wantErr(t, "from a leaf up", tree.Insert(id, 0, id-1), api.OK)
		}
		wantErr(t, "one higher", tree.Insert(top+1, 0, top), api.ErrDeep)
		wantErr(t, "into the host", tree.Insert(0, 0, top), api.ErrDeep)
		if h := tree.Height(top); h != depth {
			t.Errorf("%d: Height = %d", depth, h)
		}
		if depth > 0 {
			tree.Remove(depth)
			wantErr(t, "one less into the host", tree.Insert(0, 0, depth), api.OK)
		}
	}
}

func TestP8_4Remove(t *testing.T) {
	kids := []api.Node{elem(api.TagP, text("a"), elem(api.TagB, text("c")), text("d")), text("e")}
	for _, id := range slices.Concat(far, numbersFrom(-2, 10)) {
		tree, m := grafted(t, 8, 3, kids...)
		tree.Text("loose")
		m.newText("loose")
		wantErr(t, fmt.Sprintf("Remove(%d)", id), tree.Remove(id), m.remove(id))
		wantLike(t, tree, m)
		wantErr(t, fmt.Sprintf("Remove(%d), again", id), tree.Remove(id), m.remove(id))
		wantLike(t, tree, m)
	}
}

func TestP8_4Drop(t *testing.T) {
	kids := []api.Node{elem(api.TagP, text("a"), elem(api.TagB, text("c")), text("d")), text("e")}
	for _, id := range slices.Concat(far, numbersFrom(-2, 10)) {
		tree, m := grafted(t, 8, 3, kids...)
		tree.Text("loose")
		m.newText("loose")
		wantErr(t, fmt.Sprintf("Drop(%d)", id), tree.Drop(id), m.drop(id))
		wantLike(t, tree, m)
		tree.Remove(id)
		m.remove(id)
		wantErr(t, fmt.Sprintf("Drop(%d), loose", id), tree.Drop(id), m.drop(id))
		wantErr(t, fmt.Sprintf("Drop(%d), again", id), tree.Drop(id), m.drop(id))
		wantLike(t, tree, m)
	}
}

func TestP8_5SetAttrs(t *testing.T) {
	// host(p 1 ("a" 2)), b 3 loose
	for _, l := range [][]api.Attr{nil, {}, row(attr("a", "b")), row(attr("a", "b"), attr("a", "c"), attr("", "\xff"), attr("NO NAME", strings.Repeat("x", 300)))} {
		for _, id := range slices.Concat(far, numbersFrom(-2, 6)) {
			tree, m := grafted(t, 5, 3, withAttrs(elem(api.TagP, text("a")), attr("was", "there")))
			tree.Element(api.TagB, attr("was", "too"))
			m.element(api.TagB, row(attr("was", "too")))
			want := api.ErrNone
			switch id {
			case 0, 1, 3:
				want = api.OK
			case 2:
				want = api.ErrKind
			}
			wantErr(t, fmt.Sprintf("SetAttrs(%d)", id), tree.SetAttrs(id, l...), want)
			m.setAttrs(id, l)
			wantLike(t, tree, m)
		}
	}
}

func TestP8_5SetText(t *testing.T) {
	for _, s := range []string{"", "b", "\xffñ", longText} {
		for _, id := range slices.Concat(far, numbersFrom(-2, 6)) {
			tree, m := grafted(t, 5, 3, elem(api.TagP, text("a")), text("e"))
			want := api.ErrNone
			switch {
			case id == 0, id == 1:
				want = api.ErrKind
			case (id == 2 || id == 3) && s == longText:
				want = api.ErrLong
			case id == 2, id == 3:
				want = api.OK
			}
			wantErr(t, fmt.Sprintf("SetText(%d, %.5q)", id, s), tree.SetText(id, s), want)
			m.setText(id, s)
			wantLike(t, tree, m)
		}
	}
}

func TestP8_5SetTag(t *testing.T) {
	for _, tag := range slices.Concat(far, numbersFrom(-2, 20)) {
		for _, id := range slices.Concat(far, numbersFrom(-2, 6)) {
			tree, m := grafted(t, 5, 3, elem(api.TagP, text("a"), withAttrs(elem(api.TagBr, text("in a br")), attr("a", ""))))
			want := api.ErrNone
			switch {
			case id == 2, id == 4:
				want = api.ErrKind
			case id == 0, (id == 1 || id == 3) && (tag < api.TagDiv || tag > api.TagBr):
				want = api.ErrArg
			case id == 1, id == 3:
				want = api.OK
			}
			wantErr(t, fmt.Sprintf("SetTag(%d, %d)", id, tag), tree.SetTag(id, tag), want)
			m.setTag(id, tag)
			wantLike(t, tree, m)
		}
	}
}

func TestP8_6OfWhatIsNoNode(t *testing.T) {
	tree, m := grafted(t, 9, 9, withAttrs(elem(api.TagP, text("a"), elem(api.TagB)), attr("a", "b")), text("d"))
	tree.Remove(3)
	m.remove(3)
	tree.Drop(3)
	m.drop(3)
	for _, id := range slices.Concat(far, numbersFrom(-9, 0), numbersFrom(9, 50), []int{3, 5, 6, 7, 8}) {
		if s := nothingAt(tree, id); s != "" {
			t.Errorf("%d: %s", id, s)
		}
	}
	wantLike(t, tree, m)
}

func TestP8_6OfNodes(t *testing.T) {
	// host(p 1 ("a" 2, b 3 ("c" 4))), u 5 ("f" 6) loose
	tree := newTree(t, 9, 9)
	tree.Graft(0, 0, withAttrs(elem(api.TagP, text("a"), elem(api.TagB, text("c"))), attr("a", "b"), attr("c", "")))
	tree.Element(api.TagU)
	tree.Text("f")
	tree.Insert(5, 0, 6)
	for id, want := range []struct {
		tag                          int
		told                         string
		kids                         []int
		parent, index, depth, height int
		live                         bool
		attrs                        []api.Attr
	}{
		{1, "", []int{1}, -1, -1, 0, 3, true, nil},
		{2, "", []int{2, 3}, 0, 0, 1, 2, true, row(attr("a", "b"), attr("c", ""))},
		{0, "a", nil, 1, 0, 2, 0, true, nil},
		{11, "", []int{4}, 1, 1, 2, 1, true, nil},
		{0, "c", nil, 3, 0, 3, 0, true, nil},
		{13, "", []int{6}, -1, -1, 0, 1, false, nil},
		{0, "f", nil, 5, 0, 1, 0, false, nil},
	} {
		if !tree.Has(id) || tree.Tag(id) != want.tag || tree.Told(id) != want.told || !slices.Equal(tree.Kids(id), want.kids) || !slices.Equal(tree.Attrs(id), want.attrs) {
			t.Errorf("node %d: Has %v, Tag %d, Told %q, Kids %v, Attrs %v", id, tree.Has(id), tree.Tag(id), tree.Told(id), tree.Kids(id), tree.Attrs(id))
		}
		if tree.Parent(id) != want.parent || tree.Index(id) != want.index || tree.Depth(id) != want.depth || tree.Height(id) != want.height || tree.Live(id) != want.live {
			t.Errorf("node %d: Parent %d, Index %d, Depth %d, Height %d, Live %v", id, tree.Parent(id), tree.Index(id), tree.Depth(id), tree.Height(id), tree.Live(id))
		}
	}
}

func TestP8_7Plain(t *testing.T) {
	inner := elem(api.TagB, text("c"), withAttrs(elem(api.TagBr), attr("x", "y")))
	outer := withAttrs(elem(api.TagP, text("a"), inner, text("")), attr("a", "b"), attr("a", "b"))
	tree, _ := grafted(t, 9, 9, outer)
	for id, want := range []api.Node{elem(api.TagDiv, outer), outer, text("a"), inner, text("c"), withAttrs(elem(api.TagBr), attr("x", "y")), text(""), {}, {}} {
		if got := tree.Plain(id); !samePlain(got, want) {
			t.Errorf("Plain(%d) = %v, want %v", id, got, want)
		}
	}
	tree.Remove(3)
	if got, want := tree.Plain(1), withAttrs(elem(api.TagP, text("a"), text("")), outer.Attrs...); !samePlain(got, want) {
		t.Errorf("Plain(1) = %v, want %v", got, want)
	}
	if got := tree.Plain(3); !samePlain(got, inner) {
		t.Errorf("Plain(3), loose = %v, want %v", got, inner)
	}
}

func TestP8_7GraftNumbersAsTheyAreMet(t *testing.T) {
	n := elem(api.TagP, elem(api.TagB, text("a"), text("b")), elem(api.TagI, elem(api.TagU, text("c"))), text("d"))
	tree, _ := grafted(t, 20, 9, n)
	for id, want := range [][]int{{1}, {2, 5, 8}, {3, 4}, nil, nil, {6}, {7}, nil, nil} {
		if got := tree.Kids(id); !slices.Equal(got, want) {
			t.Errorf("Kids(%d) = %v, want %v", id, got, want)
		}
	}
}

func TestP8_7GraftFillsGaps(t *testing.T) {
	tree, m := grafted(t, 9, 9, elem(api.TagP, text("a"), text("b")), elem(api.TagP, text("c"), text("d")), text("e"))
	for _, id := range []int{2, 5, 1} {
		tree.Remove(id)
		tree.Drop(id)
		m.remove(id)
		m.drop(id)
	}
	n := elem(api.TagP, elem(api.TagB, text("x"), text("y")), elem(api.TagI))
	wantID(t, "Graft")(tree.Graft(0, 1, n))(1, api.OK)
	m.graft(0, 1, n)
	wantLike(t, tree, m)
	for id, want := range map[int][]int{0: {4, 1, 7}, 1: {2, 8}, 2: {3, 5}} {
		if got := tree.Kids(id); !slices.Equal(got, want) {
			t.Errorf("Kids(%d) = %v, want %v", id, got, want)
		}
	}
}

func TestP8_7GraftOfEachTag(t *testing.T) {
	for _, tag := range slices.Concat(far, numbersFrom(-3, 25)) {
		for _, s := range []string{"", "x"} {
			for _, l := range [][]api.Attr{nil, {}, row(attr("a", "b"))} {
				for _, kids := range [][]api.Node{nil, {}, {text("k")}} {
					n := api.Node{Tag: tag, Text: s, Attrs: l, Kids: kids}
					for _, n := range []api.Node{n, elem(api.TagP, n), elem(api.TagP, text("x"), elem(api.TagB, n), text("y"))} {
						tree, m := newTree(t, 9, 9), newModel(9, 9)
						wantID(t, n)(tree.Graft(0, 0, n))(m.graft(0, 0, n))
						wantLike(t, tree, m)
					}
				}
			}
		}
	}
}

func TestP8_7GraftWhere(t *testing.T) {
	for _, n := range plains {
		for _, parent := range slices.Concat(far, numbersFrom(-2, 9)) {
			for _, at := range slices.Concat(far, numbersFrom(-2, 5)) {
				tree, m := grafted(t, 9, 4, elem(api.TagP, text("a"), elem(api.TagB)), text("b"))
				wantID(t, fmt.Sprint(parent, at))(tree.Graft(parent, at, n))(m.graft(parent, at, n))
				wantLike(t, tree, m)
			}
		}
	}
}

func TestP8_7GraftAtTheLimits(t *testing.T) {
	for _, c := range []struct {
		capacity, depth int
		n               api.Node
		want            api.Errno
	}{
		{2000, 40, wide(1998), api.OK}, {2000, 40, wide(1999), api.ErrFull}, {2000, 40, wide(5000), api.ErrFull},
		{2000, 40, chain(40), api.OK}, {2000, 40, chain(41), api.ErrDeep}, {2000, 39, chain(40), api.ErrDeep}, {2000, 40, chain(39, text("x")), api.OK}, {2000, 40, chain(40, text("x")), api.ErrDeep},
		{41, 40, chain(40), api.OK}, {40, 40, chain(40), api.ErrFull}, {2, 0, text("x"), api.ErrDeep}, {1, 0, text("x"), api.ErrDeep}, {1, 1, text("x"), api.ErrFull}, {2, 1, text("x"), api.OK},
		{2000, 40, elem(api.TagP, wide(5000), chain(50), text(longText), wrong), api.ErrArg}, {2000, 40, elem(api.TagP, wide(5000), chain(50), text(longText)), api.ErrLong}, {2000, 40, elem(api.TagP, wide(5000), chain(50)), api.ErrDeep},
		{2000, 40, elem(api.TagP, chain(30), chain(39), text("x")), api.OK}, {2000, 40, elem(api.TagP, chain(30), chain(40), text("x")), api.ErrDeep},
	} {
		tree, m := newTree(t, c.capacity, c.depth), newModel(c.capacity, c.depth)
		id, err := tree.Graft(0, 0, c.n)
		wantID(t, "the model's")(id, err)(m.graft(0, 0, c.n))
		if err != c.want {
			t.Errorf("%d, %d: Graft = %d, want %d", c.capacity, c.depth, err, c.want)
		}
		if got, want := tree.Count(), len(m.all); got != want {
			t.Errorf("Count = %d, want %d", got, want)
		}
	}
}

func TestP8_7GraftOfWhatIsNestedAsFarAsMayBe(t *testing.T) {
	most := 1 << 16
	for i, c := range []struct {
		n    api.Node
		want api.Errno
	}{
		{chain(most), api.ErrDeep},
		{chain(most-1, wrong), api.ErrArg},
		{chain(most-1, text(longText)), api.ErrLong},
		{chain(most-2, text(longText), elem(99)), api.ErrArg},
		{chain(most-1, elem(99)), api.ErrArg},
		{chain(4*most, text(longText)), api.ErrDeep},
	} {
		tree := newTree(t, 2000, 40)
		wantID(t, i)(tree.Graft(0, 0, c.n))(0, c.want)
		wantLike(t, tree, newModel(2000, 40))
	}
}

// Its lists share memory with themselves, so that it has no end; or with one another, so that it has many nodes.
func TestP8_7GraftOfSharedLists(t *testing.T) {
	endless := elem(api.TagB, text("x"), text("y"), text("z"))
	for i := range endless.Kids {
		endless.Kids[i] = endless
	}
	tree := newTree(t, 2000, 40)
	wantID(t, "endless")(tree.Graft(0, 0, endless))(0, api.ErrDeep)
	wantID(t, "endless, within others")(tree.Graft(0, 0, elem(api.TagP, text("x"), endless)))(0, api.ErrDeep)
	wantID(t, "endless, behind what may not be")(tree.Graft(0, 0, elem(api.TagP, wrong, endless)))(0, api.ErrArg)
	wantLike(t, tree, newModel(2000, 40))
	n := elem(api.TagB)
	for range 10 {
		n = elem(api.TagB, n, n)
	}
	wantID(t, "2047 nodes")(tree.Graft(0, 0, n))(0, api.ErrFull)
	wantID(t, "1023 nodes")(tree.Graft(0, 0, n.Kids[0]))(1, api.OK)
	if got := tree.Plain(1); !samePlain(got, n.Kids[0]) || tree.Count() != 1024 {
		t.Error("what was grafted is another, if its lists share memory")
	}
}

// nones are trees that New and Copy did not make.
func nones(t *testing.T) map[string]*dom.Tree {
	tree, _ := grafted(t, 9, 9, elem(api.TagP, text("a")))
	byHand := *tree
	return map[string]*dom.Tree{"nil": nil, "empty": {}, "new": new(dom.Tree), "copied by hand": &byHand}
}

func TestP8_8OfNoTree(t *testing.T) {
	for name, tree := range nones(t) {
		for _, id := range slices.Concat(far, numbersFrom(-2, 5)) {
			if s := nothingAt(tree, id); s != "" {
				t.Errorf("%s: %s", name, s)
			}
			for of, err := range map[string]api.Errno{"Insert": tree.Insert(id, 0, 1), "Insert of it": tree.Insert(0, 0, id), "Remove": tree.Remove(id), "Drop": tree.Drop(id), "SetAttrs": tree.SetAttrs(id, attr("a", "b")), "SetText": tree.SetText(id, longText), "SetTag": tree.SetTag(id, 2)} {
				wantErr(t, name+": "+of, err, api.ErrArg)
			}
			wantID(t, name)(tree.Graft(id, 0, text(longText)))(0, api.ErrArg)
			wantID(t, name)(tree.Element(id))(0, api.ErrArg)
		}
		for _, s := range []string{"", "x", longText} {
			wantID(t, name)(tree.Text(s))(0, api.ErrArg)
		}
		capacity, depth := tree.Room()
		if capacity != 0 || depth != 0 || tree.Count() != 0 || tree.Copy() != nil {
			t.Errorf("%s: Room %d, %d, Count %d, Copy %v", name, capacity, depth, tree.Count(), tree.Copy())
		}
	}
}

func TestP8_8CopiedByHandItLeavesTheTreeAlone(t *testing.T) {
	tree, m := grafted(t, 9, 9, elem(api.TagP, text("a")))
	byHand := *tree
	byHand.Text("x")
	byHand.SetText(2, "x")
	byHand.Insert(1, 0, 3)
	byHand.Remove(1)
	wantLike(t, tree, m)
}

func TestP8_8WhatIsHandedInStays(t *testing.T) {
	for _, use := range []func(tree *dom.Tree, l []api.Attr){
		func(tree *dom.Tree, l []api.Attr) { tree.Element(api.TagA, l...) },
		func(tree *dom.Tree, l []api.Attr) { tree.Element(api.TagA); tree.SetAttrs(1, l...) },
		func(tree *dom.Tree, l []api.Attr) { tree.Graft(0, 0, withAttrs(elem(api.TagA), l...)) },
	} {
		room := row(attr("a", "b"), attr("c", "d"), attr("behind", "1"), attr("behind", "2"))
		tree := newTree(t, 9, 9)
		use(tree, room[:2])
		for range 3 {
			if got := tree.Attrs(1); !slices.Equal(got, row(attr("a", "b"), attr("c", "d"))) {
				t.Fatalf("Attrs = %v", got)
			}
			tree.SetTag(1, api.TagB)
			tree.Copy().SetAttrs(1, attr("x", "y"))
			if want := row(attr("a", "b"), attr("c", "d"), attr("behind", "1"), attr("behind", "2")); !slices.Equal(room, want) {
				t.Fatalf("what was handed in is %v", room)
			}
		}
		for i := range room {
			room[i] = attr("other", "other")
		}
		if got := tree.Attrs(1); !slices.Equal(got, row(attr("a", "b"), attr("c", "d"))) {
			t.Errorf("what was handed in is kept: %v", got)
		}
	}
}

func TestP8_8PlainTreesThatAreHandedInStay(t *testing.T) {
	fresh := func() api.Node {
		return withAttrs(elem(api.TagP, text("a"), withAttrs(elem(api.TagB, text("\xff")), attr("c", "d")), text("behind")), attr("a", "b"))
	}
	n := fresh()
	n.Kids = n.Kids[:2]
	tree := newTree(t, 9, 9)
	tree.Graft(0, 0, n)
	want := withAttrs(elem(api.TagP, text("a"), withAttrs(elem(api.TagB, text("\uFFFD")), attr("c", "d"))), attr("a", "b"))
	if got := tree.Plain(1); !samePlain(got, want) {
		t.Fatalf("Plain = %v", got)
	}
	n.Kids = n.Kids[:3]
	if !samePlain(n, fresh()) {
		t.Fatalf("what was handed in is %v", n)
	}
	n.Attrs[0], n.Kids[1].Attrs[0], n.Kids[1].Kids[0], n.Kids[0], n.Kids[1] = attr("x", ""), attr("x", ""), text("x"), text("x"), text("x")
	if got := tree.Plain(1); !samePlain(got, want) {
		t.Errorf("what was handed in is kept: %v", got)
	}
}

// bytesOf is a text whose bytes can be changed behind its back.
func bytesOf(s string) (string, []byte) {
	b := []byte(s)
	return unsafe.String(&b[0], len(b)), b
}

func TestP8_8TextsThatAreHandedInAreNotKept(t *testing.T) {
	for name, use := range map[string]func(tree *dom.Tree, s string){
		"Text":     func(tree *dom.Tree, s string) { tree.Text(s) },
		"SetText":  func(tree *dom.Tree, s string) { tree.Text(""); tree.SetText(1, s) },
		"Graft":    func(tree *dom.Tree, s string) { tree.Graft(0, 0, text(s)) },
		"Element":  func(tree *dom.Tree, s string) { tree.Element(api.TagA, attr(s, s)) },
		"SetAttrs": func(tree *dom.Tree, s string) { tree.Element(api.TagA); tree.SetAttrs(1, attr(s, s)) },
		"attrs":    func(tree *dom.Tree, s string) { tree.Graft(0, 0, withAttrs(elem(api.TagA), attr(s, s))) },
	} {
		s, b := bytesOf("was")
		tree := newTree(t, 2, 1)
		use(tree, s)
		copy(b, "XXX")
		if got := tree.Plain(1); !samePlain(got, text("was")) && !slices.Equal(got.Attrs, row(attr("was", "was"))) {
			t.Errorf("%s keeps what it is handed: %v", name, got)
		}
	}
}

func TestP8_8AnswersAreNewMemory(t *testing.T) {
	n := withAttrs(elem(api.TagP, withAttrs(elem(api.TagB, text("a"), text("b")), attr("c", "d"), attr("e", "f")), text("g")), attr("a", "b"), attr("e", "f"))
	tree, m := grafted(t, 9, 9, n)
	for range 2 {
		for id := range 6 {
			l := tree.Attrs(id)
			clear(l)
			clear(append(l, attr("x", "y"))[:cap(l)])
			kids := tree.Kids(id)
			clear(kids)
			clear(append(kids, 7)[:cap(kids)])
			spoil(tree.Plain(id))
			wantLike(t, tree, m)
		}
		tree = tree.Copy()
	}
}

// spoil writes to all lists of a plain tree, and to the room behind their ends.
func spoil(n api.Node) {
	for _, k := range n.Kids {
		spoil(k)
	}
	clear(n.Kids[:cap(n.Kids)])
	clear(n.Attrs[:cap(n.Attrs)])
}

func TestP8_8NoTwoAnswersShareMemory(t *testing.T) {
	tree, m := grafted(t, 9, 9, withAttrs(elem(api.TagP, text("a"), withAttrs(elem(api.TagB, text("b")), attr("c", "d"))), attr("a", "b")))
	for id := range 5 {
		l, plain, kids := tree.Attrs(id), tree.Plain(id), tree.Kids(id)
		clear(tree.Attrs(id))
		clear(tree.Kids(id))
		spoil(tree.Plain(id))
		p := m.find(id)
		if !slices.Equal(l, p.attrs) || !samePlain(plain, p.plain()) || len(kids) != len(p.kids) || len(kids) > 0 && kids[0] != p.kids[0].id {
			t.Errorf("node %d: an answer follows another", id)
		}
	}
	plain := tree.Plain(0)
	spoil(plain.Kids[0].Kids[1])
	if got, want := plain.Kids[0].Attrs, row(attr("a", "b")); !slices.Equal(got, want) || plain.Kids[0].Kids[0].Text != "a" {
		t.Error("two lists of one answer share memory")
	}
}

// Beside an answer that has no kids, an empty tree, or texts alone, each field is zero to which the chapter gives no meaning.
func TestP8_8FieldsWithoutMeaningAreZero(t *testing.T) {
	tree, _ := grafted(t, 9, 9, text("a"), withAttrs(elem(api.TagB), row()...))
	for id := range 9 {
		n := tree.Plain(id)
		if n.Tag == 0 && (len(n.Attrs) > 0 || len(n.Kids) > 0) || n.Tag > 0 && n.Text != "" {
			t.Errorf("Plain(%d) = %v", id, n)
		}
	}
}

// sound tells what is not sound in a tree.
func sound(tree *dom.Tree) string {
	capacity, depth := tree.Room()
	met, count := map[int]int{}, 0
	for id := range capacity {
		if !tree.Has(id) {
			continue
		}
		count++
		for i, kid := range tree.Kids(id) {
			met[kid]++
			if tree.Parent(kid) != id || tree.Index(kid) != i {
				return fmt.Sprintf("%d is no kid of %d at %d", kid, id, i)
			}
		}
		at, steps := id, 0
		for ; tree.Parent(at) >= 0 && steps <= depth; at = tree.Parent(at) {
			steps++
		}
		if steps > depth || steps != tree.Depth(id) || tree.Live(id) != (at == 0) {
			return fmt.Sprintf("from %d one comes to no root", id)
		}
	}
	for id := range capacity {
		want := 0
		if tree.Parent(id) >= 0 {
			want = 1
		}
		if met[id] != want {
			return fmt.Sprintf("%d is a kid %d times", id, met[id])
		}
	}
	if count != tree.Count() || count > capacity || !tree.Has(0) || tree.Tag(0) != api.TagDiv || tree.Parent(0) != -1 {
		return "the host, or how many there are"
	}
	return ""
}

func TestP8_9SoundWhateverCalls(t *testing.T) {
	for _, r := range [][2]int{{5, 1}, {6, 2}, {8, 4}, {12, 3}, {20, 6}, {40, 40}} {
		t.Run(fmt.Sprint(r), func(t *testing.T) {
			t.Parallel()
			tree, m := newTree(t, r[0], r[1]), newModel(r[0], r[1])
			all := calls(min(r[0], 12))
			seed, done := uint64(r[0]), 0
			for step := range 20000 {
				seed = seed*6364136223846793005 + 1442695040888963407
				c := all[int(seed>>33)%len(all)]
				if seed>>60 < 8 { // as many calls again that make nodes, and few that take them away
					c = all[int(seed>>33)%9]
				}
				got, err := c.tree(tree)
				wantID(t, c.name)(got, err)(c.model(m))
				if err == api.OK {
					done++
				}
				if step%10 == 0 || err == api.OK {
					wantLike(t, tree, m)
					if s := sound(tree); s != "" {
						t.Fatalf("behind %s: %s", c.name, s)
					}
				}
			}
			if done < 100 {
				t.Errorf("%d calls alone were done", done)
			}
		})
	}
}

func TestP8_9SoundInEveryState(t *testing.T) {
	walk(t, 4, 2, leading(4), func(p pair) {
		if s := sound(p.tree); s != "" {
			t.Fatalf("%s: %s", p.way, s)
		}
	})
}

// trees are all plain trees of at most so many nodes, elements of that tag and texts.
func trees(most int) []api.Node {
	if most == 0 {
		return nil
	}
	l := []api.Node{text("a\xff"), text("")}
	for _, kids := range rowsOf(most - 1) {
		l = append(l, elem(api.TagP, kids...), withAttrs(elem(api.TagBr, kids...), attr("a", fmt.Sprint(len(kids)))))
	}
	return l
}

// rowsOf are all rows of plain trees of at most so many nodes together.
func rowsOf(most int) [][]api.Node {
	l := [][]api.Node{nil}
	for _, first := range trees(most) {
		for _, others := range rowsOf(most - size(first)) {
			l = append(l, slices.Concat([]api.Node{first}, others))
		}
	}
	return l
}

// anewAll is the plain tree, its texts written anew.
func anewAll(n api.Node) api.Node {
	m := api.Node{Tag: n.Tag, Attrs: n.Attrs, Text: written(n.Text)}
	for _, k := range n.Kids {
		m.Kids = append(m.Kids, anewAll(k))
	}
	return m
}

func TestP8_10ThereAndBack(t *testing.T) {
	all := trees(4)
	if len(all) < 100 {
		t.Fatalf("%d trees alone", len(all))
	}
	for _, n := range all {
		tree, _ := grafted(t, 20, 9, elem(api.TagP, text("x")), elem(api.TagU))
		for _, at := range [][2]int{{0, 1}, {1, 1}, {3, 0}} {
			id, err := tree.Graft(at[0], at[1], n)
			if got, want := tree.Plain(id), anewAll(n); err != api.OK || !samePlain(got, want) {
				t.Fatalf("Graft(%v, %v) = %d, %d; Plain = %v", at, n, id, err, got)
			}
			again, err := tree.Copy().Graft(0, 0, tree.Plain(id))
			if err != api.OK || again == id {
				t.Fatalf("grafted again: %d, %d", again, err)
			}
		}
	}
}

func TestP8_11RemovedAndInsertedWhereItWas(t *testing.T) {
	walk(t, 4, 3, leading(4), func(p pair) {
		for id := range 4 {
			parent, index := p.tree.Parent(id), p.tree.Index(id)
			if parent < 0 {
				continue
			}
			tree := p.tree.Copy()
			wantErr(t, "Remove", tree.Remove(id), api.OK)
			if tree.Parent(id) != -1 || tree.Live(id) || tree.Count() != p.tree.Count() {
				t.Fatalf("%s: %d is not loose", p.way, id)
			}
			wantErr(t, "Insert", tree.Insert(parent, index, id), api.OK)
			wantLike(t, tree, p.model)
		}
	})
}

func TestP8_11InGreaterTrees(t *testing.T) {
	n := elem(api.TagP, withAttrs(elem(api.TagB, text("a"), elem(api.TagI, text("b")), text("c")), attr("a", "b")), text("d"), elem(api.TagU, text("e"), text("f")))
	tree, m := grafted(t, 40, 9, n, text("g"), n)
	for id := range 40 {
		if parent, index := tree.Parent(id), tree.Index(id); parent >= 0 {
			wantErr(t, "Remove", tree.Remove(id), api.OK)
			wantErr(t, "Insert", tree.Insert(parent, index, id), api.OK)
			wantLike(t, tree, m)
		}
	}
}

// example is the chapter's: New(3, 1).
func example(t *testing.T) *dom.Tree { return newTree(t, 3, 1) }

func exampleNodes(t *testing.T, tree *dom.Tree) {
	wantID(t, "Element(TagP)")(tree.Element(api.TagP))(1, api.OK)
	wantID(t, "Text(a)")(tree.Text("a"))(2, api.OK)
	wantErr(t, "Insert(0, 0, 1)", tree.Insert(0, 0, 1), api.OK)
	wantErr(t, "Insert(1, 0, 2)", tree.Insert(1, 0, 2), api.ErrDeep)
}

func TestExamplesOfInsert(t *testing.T) { exampleNodes(t, example(t)) }

func TestExamplesOfFull(t *testing.T) {
	tree := example(t)
	exampleNodes(t, tree)
	wantID(t, "Element(TagP)")(tree.Element(api.TagP))(0, api.ErrFull)
}

func TestExamplesOfDropAndOfTheHost(t *testing.T) {
	tree := example(t)
	exampleNodes(t, tree)
	wantErr(t, "Remove(1)", tree.Remove(1), api.OK)
	wantErr(t, "Drop(1)", tree.Drop(1), api.OK)
	wantID(t, "Text(b)")(tree.Text("b"))(1, api.OK)
	wantErr(t, "Insert(0, 1, 1)", tree.Insert(0, 1, 1), api.ErrArg)
	wantErr(t, "Insert(0, 0, 1)", tree.Insert(0, 0, 1), api.OK)
	wantErr(t, "Insert(0, 0, 0)", tree.Insert(0, 0, 0), api.ErrArg)
}
