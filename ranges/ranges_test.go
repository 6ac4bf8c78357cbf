package ranges_test

import (
	"fmt"
	"slices"
	"strings"
	"sync"
	"testing"

	"quillwork/api"
	"quillwork/dom"
	"quillwork/live"
	"quillwork/order"
	"quillwork/parts"
	"quillwork/ranges"
)

func leaf(s string) api.Node { return api.Node{Text: s} }

func elem(tag int, kids ...api.Node) api.Node { return api.Node{Tag: tag, Kids: kids} }

// host has these kids in a room with so much left.
func host(t *testing.T, room int, kids ...api.Node) *live.Tree {
	t.Helper()
	whole := newTree(t, api.MaxNodes, api.MaxDepth)
	for at, kid := range kids {
		if _, err := whole.Graft(0, at, kid); err != api.OK {
			t.Fatalf("Graft of %v: %d", kid, err)
		}
	}
	tree := newTree(t, whole.Count()+room, api.MaxDepth)
	for at, kid := range kids {
		tree.Graft(0, at, kid)
	}
	return tree
}

// wantErr, and those below it, write down what they were called of when it went wrong alone.
func wantErr(t *testing.T, got, want api.Errno, of ...any) {
	t.Helper()
	if got != want {
		t.Fatalf("%.2000s: got %d, want %d", fmt.Sprintln(of...), got, want)
	}
}

func wantHost(t *testing.T, of string, tree *live.Tree, kids ...api.Node) {
	t.Helper()
	if got := tree.Plain(0).Kids; !sameNodes(got, kids) {
		t.Fatalf("%s: the host has %v, want %v", of, got, kids)
	}
}

func wantModel(t *testing.T, tree *live.Tree, want *model, of ...any) {
	t.Helper()
	if got := modelOf(tree); !alike(got, want) {
		t.Fatalf("%.2000s:\ngot  %s\nwant %s", fmt.Sprintln(of...), got, want)
	}
}

// holdAll holds each place that may be, and each second one once more.
func holdAll(t *testing.T, tree *live.Tree) {
	t.Helper()
	for i, p := range modelOf(tree).places() {
		for range 1 + i%2 {
			if _, err := tree.Hold(p); err != api.OK {
				t.Fatalf("Hold of %v: %d", p, err)
			}
		}
	}
}

var (
	making     sync.Once
	smallTrees []*live.Tree
)

// small are all small trees, with every place held: those of up to three nodes beside the host whatever their numbers, those of four and of five whatever their shape. They are made once: each test leaves them as they are.
func small(t *testing.T) []*live.Tree {
	t.Helper()
	making.Do(func() {
		smallTrees = slices.Concat(states(t, 4, 4, 3, false, "aé", ""), states(t, 6, 5, 4, true, "aé", ""), states(t, 8, 6, 5, true, "éa"))
		for _, tree := range smallTrees {
			holdAll(t, tree)
		}
	})
	return smallTrees
}

// grown are greater trees, of texts and elements as they were thrown, some of them loose.
func grown(t *testing.T, count int) []*live.Tree {
	t.Helper()
	var l []*live.Tree
	for seed := range count {
		d := dice(seed)
		tree := newTree(t, 40, 2+d.below(6))
		for range 12 + d.below(28) {
			sprout(tree, &d)
		}
		l = append(l, tree)
	}
	return l
}

func sprout(tree *live.Tree, d *dice) {
	parent, at := d.below(tree.Count()), d.below(3)
	switch d.below(5) {
	case 0, 1:
		tree.Graft(parent, at, leaf(pick(d, "", "xyz", "é", "uv")))
	case 2:
		tree.Graft(parent, at, api.Node{Tag: 1 + d.below(16), Attrs: make([]api.Attr, d.below(3))})
	case 3:
		tree.Graft(parent, at, elem(pick(d, api.TagP, api.TagB), leaf("añb"), elem(api.TagI, leaf("q"))))
	case 4:
		if d.below(3) == 0 {
			tree.Element(api.TagUl)
			tree.Text("loose")
		}
	}
}

// eachTree runs the test of each of the trees beside one another.
func eachTree(t *testing.T, trees []*live.Tree, test func(t *testing.T, tree *live.Tree, m *model)) {
	t.Helper()
	for i, tree := range trees {
		t.Run(fmt.Sprint(i), func(t *testing.T) {
			t.Parallel()
			m := modelOf(tree)
			test(t, tree, m)
			wantModel(t, tree, m, "the tree behind the test")
		})
	}
}

// around are all places in a small tree, and those around its bounds.
func around(tree *live.Tree) []place {
	var l []place
	for id := -1; id <= capacityOf(tree); id++ {
		for at := -1; at <= 4; at++ {
			l = append(l, spot(id, at))
		}
	}
	return l
}

// eachPair goes over every two of the places.
func eachPair(places []place) func(yield func(a, b place) bool) {
	return func(yield func(a, b place) bool) {
		for _, a := range places {
			for _, b := range places {
				if !yield(a, b) {
					return
				}
			}
		}
	}
}

func TestTheTestsTreesAreMany(t *testing.T) {
	if l := small(t); len(l) < 3000 {
		t.Errorf("%d small trees alone", len(l))
	}
	pairs := 0
	for _, tree := range grown(t, 60) {
		m := modelOf(tree)
		for a, b := range eachPair(m.places()) {
			if _, _, _, ok := m.between(a, b); ok {
				pairs++
			}
		}
	}
	if pairs < 40000 {
		t.Errorf("%d ranges alone in greater trees", pairs)
	}
}

func wantAsked(t *testing.T, tree *live.Tree, m *model, a, b place) {
	t.Helper()
	want, ok := m.common(a, b)
	if got := ranges.May(tree, a, b); got != ok {
		t.Fatalf("May(%v, %v) of %s: %t", a, b, m, got)
	}
	if got, may := ranges.Common(tree, a, b); got != want || may != ok {
		t.Fatalf("Common(%v, %v) of %s: got %d, %t, want %d, %t", a, b, m, got, may, want, ok)
	}
}

func TestP13_1MayAndCommon(t *testing.T) {
	eachTree(t, small(t), func(t *testing.T, tree *live.Tree, m *model) {
		for a, b := range eachPair(around(tree)) {
			wantAsked(t, tree, m, a, b)
		}
	})
}

func TestP13_1InGreaterTrees(t *testing.T) {
	eachTree(t, grown(t, 60), func(t *testing.T, tree *live.Tree, m *model) {
		for a, b := range eachPair(m.places()) {
			wantAsked(t, tree, m, a, b)
		}
	})
}

func wantTold(t *testing.T, tree *live.Tree, m *model, a, b place) {
	t.Helper()
	if got, want := ranges.Text(tree, a, b), m.text(a, b); got != want {
		t.Fatalf("Text(%v, %v) of %s: got %q, want %q", a, b, m, got, want)
	}
	want, wantErr := m.clone(a, b)
	if got, err := ranges.Clone(tree, a, b); !sameNodes(got, want) || err != wantErr {
		t.Fatalf("Clone(%v, %v) of %s:\ngot  %v, %d\nwant %v, %d", a, b, m, got, err, want, wantErr)
	}
}

func TestP13_2TextAndClone(t *testing.T) {
	eachTree(t, small(t), func(t *testing.T, tree *live.Tree, m *model) {
		for a, b := range eachPair(around(tree)) {
			wantTold(t, tree, m, a, b)
		}
	})
}

func TestP13_2InGreaterTrees(t *testing.T) {
	eachTree(t, grown(t, 60), func(t *testing.T, tree *live.Tree, m *model) {
		for a, b := range eachPair(m.places()) {
			wantTold(t, tree, m, a, b)
		}
	})
}

// wantGone holds Delete and Extract, each of a copy of its own, against the model; those of what is no range are called of the tree itself, which is to stay as it is.
func wantGone(t *testing.T, tree *live.Tree, m *model, a, b place) {
	t.Helper()
	left, deleted, extracted := m, tree, tree
	if _, _, _, ok := m.between(a, b); ok {
		left, deleted, extracted = m.copied(), tree.Copy(), tree.Copy()
	}
	wantNodes, want, wantErr := left.extract(a, b)
	if got, err := ranges.Delete(deleted, a, b); got != want || err != wantErr {
		t.Fatalf("Delete(%v, %v) of %s: got %v, %d, want %v, %d", a, b, m, got, err, want, wantErr)
	}
	if nodes, got, err := ranges.Extract(extracted, a, b); !sameNodes(nodes, wantNodes) || got != want || err != wantErr {
		t.Fatalf("Extract(%v, %v) of %s:\ngot  %v, %v, %d\nwant %v, %v, %d", a, b, m, nodes, got, err, wantNodes, want, wantErr)
	}
	if wantErr == api.OK {
		wantModel(t, deleted, left, "Delete", a, b, m)
		wantModel(t, extracted, left, "Extract", a, b, m)
	}
}

func TestP13_3DeleteAndP13_4Extract(t *testing.T) {
	eachTree(t, small(t), func(t *testing.T, tree *live.Tree, m *model) {
		for a, b := range eachPair(around(tree)) {
			wantGone(t, tree, m, a, b)
		}
	})
}

func TestP13_3AndP13_4InGreaterTrees(t *testing.T) {
	for i, tree := range grown(t, 60) {
		if i%2 == 0 {
			holdAll(t, tree)
		}
		t.Run(fmt.Sprint(i), func(t *testing.T) {
			t.Parallel()
			m := modelOf(tree)
			for a, b := range eachPair(m.places()) {
				wantGone(t, tree, m, a, b)
			}
		})
	}
}

// lies tells it by the chapter's words.
func lies(tree *live.Tree, id int, a, b place) bool {
	ahead, ok := order.Cmp(tree.Tree, spot(tree.Parent(id), tree.Index(id)), a)
	behind, also := order.Cmp(tree.Tree, spot(tree.Parent(id), tree.Index(id)+1), b)
	return ok && also && ahead >= 0 && behind <= 0
}

// partOf tells by the chapter's words what Clone has of a kid.
func partOf(tree *live.Tree, id int, a, b place) []api.Node {
	switch {
	case lies(tree, id, a, b):
		return []api.Node{tree.Plain(id)}
	case !order.Within(tree.Tree, a.Node, id) && !order.Within(tree.Tree, b.Node, id):
		return nil
	case tree.Tag(id) == api.TagText:
		return []api.Node{leaf(partOfText(tree, id, a, b))}
	}
	n := api.Node{Tag: tree.Tag(id), Attrs: tree.Attrs(id)}
	for _, kid := range tree.Kids(id) {
		n.Kids = append(n.Kids, partOf(tree, kid, a, b)...)
	}
	return []api.Node{n}
}

// partOfText has the characters one by one: one is within the range, if the places around it are.
func partOfText(tree *live.Tree, id int, a, b place) string {
	var l []rune
	for at, r := range []rune(tree.Told(id)) {
		ahead, _ := order.Cmp(tree.Tree, spot(id, at), a)
		behind, _ := order.Cmp(tree.Tree, spot(id, at+1), b)
		if ahead >= 0 && behind <= 0 {
			l = append(l, r)
		}
	}
	return string(l)
}

// leftBy is the place that Delete answers, by the chapter's words.
func leftBy(tree *live.Tree, a, b place) place {
	if order.Within(tree.Tree, b.Node, a.Node) {
		return a
	}
	id := a.Node
	for !order.Within(tree.Tree, b.Node, tree.Parent(id)) {
		id = tree.Parent(id)
	}
	return spot(tree.Parent(id), tree.Index(id)+1)
}

func TestByTheWords(t *testing.T) {
	eachTree(t, grown(t, 40), func(t *testing.T, tree *live.Tree, m *model) {
		for a, b := range eachPair(m.places()) {
			by, ok := order.Cmp(tree.Tree, a, b)
			common, may := ranges.Common(tree, a, b)
			if may != (ok && by <= 0) {
				t.Fatalf("Common(%v, %v) of %s: %t", a, b, m, may)
			}
			if may {
				wantWords(t, tree, common, a, b)
			}
		}
	})
}

func wantWords(t *testing.T, tree *live.Tree, common int, a, b place) {
	t.Helper()
	var kids []api.Node
	for _, kid := range tree.Kids(common) {
		kids = append(kids, partOf(tree, kid, a, b)...)
	}
	if s := partOfText(tree, common, a, b); s != "" {
		kids = []api.Node{leaf(s)}
	}
	if got, err := ranges.Clone(tree, a, b); !sameNodes(got, kids) || err != api.OK {
		t.Fatalf("Clone(%v, %v) of %s: got %v, %d, want %v", a, b, modelOf(tree), got, err, kids)
	}
	now := tree.Copy()
	if got, _ := ranges.Delete(now, a, b); got != leftBy(tree, a, b) || got != leftBy(now, spot(a.Node, 0), spot(b.Node, 0)) && a.Node != common {
		t.Fatalf("Delete(%v, %v) of %s: got %v", a, b, modelOf(tree), got)
	}
	for _, id := range order.All(tree.Tree, common) {
		if now.Has(id) == lies(tree, id, a, b) {
			t.Fatalf("Delete(%v, %v) of %s: the node %d", a, b, modelOf(tree), id)
		}
	}
}

// rows are what is put: nothing; what may be; what may not be, alone and behind what may.
func rows() [][]api.Node {
	x, p := leaf("xñ"), api.Node{Tag: api.TagA, Attrs: []api.Attr{{Name: "href", Value: "y"}}, Kids: []api.Node{leaf("z"), elem(api.TagBr)}}
	deep, wrong := elem(api.TagB, elem(api.TagB, elem(api.TagB, elem(api.TagB)))), elem(api.TagBr+1)
	return [][]api.Node{
		nil, {}, {x}, {leaf("")}, {leaf("\xffa")}, {p}, {elem(api.TagP)}, {x, p}, {p, x, leaf("")}, {x, x, x}, {deep}, {x, deep},
		{wrong}, {x, wrong}, {wrong, x}, {elem(-1)}, {{Tag: api.TagText, Kids: []api.Node{x}}}, {{Attrs: []api.Attr{{}}}}, {{Tag: api.TagP, Text: "x"}}, {elem(api.TagP, wrong)}, {x, x, x, x, x, wrong},
	}
}

// longRows have texts of 8193 bytes, written anew; but the last one has one of 8190.
func longRows() [][]api.Node {
	x, long := leaf("x"), leaf(strings.Repeat("\xff", 2731))
	return [][]api.Node{{long}, {x, long}, {long, elem(-1)}, {elem(api.TagP, long, elem(-1))}, {elem(api.TagB, elem(api.TagB, elem(api.TagB, elem(api.TagB))), long)}, {leaf(strings.Repeat("\xff", 2730))}}
}

// wantPut leaves it to the one who calls it to see that a refused one has changed nothing.
func wantPut(t *testing.T, tree *live.Tree, m *model, p place, l []api.Node) {
	t.Helper()
	want, now := m.copied(), tree
	err := want.put(p, l...)
	if err == api.OK {
		now = tree.Copy()
	}
	wantErr(t, ranges.Put(now, p, l...), err, "Put", p, m, l)
	if err == api.OK {
		wantModel(t, now, want, "Put", p, m, l)
	}
}

func TestP13_5Put(t *testing.T) {
	trees := slices.Clone(small(t))
	for _, tree := range slices.Concat(states(t, 5, 4, 4, true, "aé", ""), states(t, 12, 4, 6, true, "aé", "")) {
		holdAll(t, tree)
		trees = append(trees, tree)
	}
	eachTree(t, trees, func(t *testing.T, tree *live.Tree, m *model) {
		for _, p := range around(tree) {
			if _, _, _, ok := m.gap(p); !ok {
				wantErr(t, ranges.Put(tree, p), api.ErrArg, "Put", p, m)
				wantErr(t, ranges.Put(tree, p, leaf("x"), elem(99)), api.ErrArg, "Put", p, m)
				continue
			}
			for _, l := range rows() {
				wantPut(t, tree, m, p, l)
			}
		}
	})
}

func TestP13_5InGreaterTrees(t *testing.T) {
	eachTree(t, grown(t, 60), func(t *testing.T, tree *live.Tree, m *model) {
		for _, p := range m.places() {
			for _, l := range slices.Concat(rows(), longRows()) {
				wantPut(t, tree, m, p, l)
			}
		}
	})
}

// Of several errors that apply the first one is told, here in a tree that is full, with a loose text.
func TestP13_5OrderOfErrors(t *testing.T) {
	tree := newTree(t, 5, 2)
	tree.Graft(0, 0, elem(api.TagP, leaf("ab")))
	tree.Text("loose")
	tree.Element(api.TagP)
	holdAll(t, tree)
	wrong, long, high := elem(99), leaf(strings.Repeat("x", 8193)), elem(api.TagP, elem(api.TagP, leaf("x")))
	m := modelOf(tree)
	for _, c := range []struct {
		at   place
		put  []api.Node
		want api.Errno
	}{
		{spot(9, 0), nil, api.ErrArg}, {spot(3, 6), []api.Node{wrong}, api.ErrArg}, {spot(3, -1), nil, api.ErrArg}, {spot(0, 2), []api.Node{high}, api.ErrArg},
		{spot(3, 2), []api.Node{wrong}, api.ErrKind}, {spot(3, 0), []api.Node{long}, api.ErrKind}, {spot(3, 5), []api.Node{leaf("")}, api.ErrKind},
		{spot(3, 2), nil, api.OK}, {spot(3, 0), nil, api.OK}, {spot(3, 5), []api.Node{}, api.OK},
		{spot(2, 1), []api.Node{wrong}, api.ErrFull}, {spot(2, 1), nil, api.ErrFull}, {spot(2, 0), nil, api.OK}, {spot(2, 2), nil, api.OK}, {spot(1, 1), nil, api.OK},
		{spot(2, 2), []api.Node{wrong}, api.ErrArg}, {spot(0, 0), []api.Node{high, wrong}, api.ErrDeep}, {spot(0, 0), []api.Node{elem(api.TagP, elem(api.TagP, long))}, api.ErrLong}, {spot(0, 0), []api.Node{leaf("x"), wrong}, api.ErrFull}, {spot(4, 0), []api.Node{leaf("x")}, api.ErrFull}, {spot(2, 0), []api.Node{elem(api.TagB, leaf("x"))}, api.ErrDeep},
	} {
		wantErr(t, ranges.Put(tree, c.at, c.put...), c.want, "Put", c.at, c.put)
		wantModel(t, tree, m, "Put", c.at, c.put)
	}
}

// What was put ahead of a node that is refused is gone again, and the text that was cut for it is whole.
func TestP13_5RefusedAndUndone(t *testing.T) {
	tree := host(t, 5, elem(api.TagP, leaf("añb")), leaf("c"))
	tree.Free(9)
	holdAll(t, tree)
	tree.Free(1)
	tree.Free(4)
	m := modelOf(tree)
	handles := tree.Handles()
	for _, last := range []api.Node{elem(99), leaf(strings.Repeat("x", 8193)), elem(api.TagP, leaf("x"), leaf("y"))} {
		for _, at := range []place{spot(2, 1), spot(2, 0), spot(2, 3), spot(1, 0), spot(0, 2)} {
			if ranges.Put(tree, at, leaf("x"), elem(api.TagB, leaf("y")), last) == api.OK {
				t.Errorf("put at %v", at)
			}
			wantModel(t, tree, m, "refused at", at)
			if got := tree.Handles(); !slices.Equal(got, handles) {
				t.Errorf("refused at %v: the handles are %v", at, got)
			}
		}
	}
}

func TestP13_5NumbersOfWhatIsPut(t *testing.T) {
	tree := host(t, 9, elem(api.TagP, leaf("ab"), leaf("c")))
	tree.Remove(3)
	tree.Drop(3)
	wantErr(t, ranges.Put(tree, spot(2, 1), elem(api.TagB, leaf("x"), elem(api.TagI)), leaf("y")), api.OK, "Put")
	if got := order.All(tree.Tree, 0); !slices.Equal(got, []int{0, 1, 2, 4, 5, 6, 7, 3}) {
		t.Errorf("in order the nodes are %v", got)
	}
}

// Put of nothing cuts a text too; but a loose one stays whole: behind a cut its characters would not be as they were (P13.7).
func TestP13_5Nothing(t *testing.T) {
	tree := host(t, 3, elem(api.TagP, leaf("ab")))
	tree.Text("cd")
	wantErr(t, ranges.Put(tree, spot(3, 1)), api.OK, "in a loose text")
	wantErr(t, ranges.Put(tree, spot(2, 2)), api.OK, "at an end")
	if tree.Told(3) != "cd" || tree.Count() != 4 {
		t.Errorf("%s", modelOf(tree))
	}
	wantErr(t, ranges.Put(tree, spot(2, 1)), api.OK, "in a text")
	wantHost(t, "in a text", tree, elem(api.TagP, leaf("a"), leaf("b")))
}

func TestP13_6BehindDelete(t *testing.T) {
	eachTree(t, slices.Concat(small(t), grown(t, 60)), func(t *testing.T, tree *live.Tree, m *model) {
		for a, b := range eachPair(m.places()) {
			if ranges.May(tree, a, b) {
				wantP13_6(t, tree, m, a, b)
			}
		}
	})
}

func wantP13_6(t *testing.T, tree *live.Tree, m *model, a, b place) {
	t.Helper()
	now, root := tree.Copy(), m.rootOf(a.Node)
	handle, _ := now.Hold(b)
	text := ranges.Text(tree, a, b)
	if l, _ := ranges.Clone(tree, a, b); textOf(l) != text {
		t.Fatalf("%v, %v of %s: Clone says %q, Text %q", a, b, m, textOf(l), text)
	}
	p, err := ranges.Delete(now, a, b)
	wantErr(t, err, api.OK, "Delete", a, b, m)
	whole, end := spot(root, 0), spot(root, order.Length(tree.Tree, root))
	if got, want := parts.Flat(now, root), ranges.Text(tree, whole, a)+ranges.Text(tree, b, end); got != want {
		t.Fatalf("Delete(%v, %v) of %s: got %q, want %q", a, b, m, got, want)
	}
	then, _ := now.Held(handle)
	if !order.May(now.Tree, p) || !ranges.May(now, p, then) || ranges.Text(now, p, then) != "" {
		t.Fatalf("Delete(%v, %v) of %s: from %v to %v: %q", a, b, m, p, then, ranges.Text(now, p, then))
	}
}

func textOf(l []api.Node) string {
	s := ""
	for _, n := range l {
		s += n.Text + textOf(n.Kids)
	}
	return s
}

// In a loose text nothing but nothing is put (P13.5); all else that was deleted can be put back, where there is room.
func TestP13_7DeleteAndPut(t *testing.T) {
	for i, tree := range slices.Concat(small(t), grown(t, 60)) {
		roomy := copied(t, tree)
		t.Run(fmt.Sprint(i), func(t *testing.T) {
			t.Parallel()
			m := modelOf(roomy)
			for a, b := range eachPair(m.places()) {
				if ranges.May(roomy, a, b) {
					wantP13_7(t, roomy, m, a, b)
				}
			}
		})
	}
}

// copied is a tree in a room as great as may be; its numbers are its own.
func copied(t *testing.T, tree *live.Tree) *live.Tree {
	t.Helper()
	c := newTree(t, 100, api.MaxDepth)
	for id := range capacityOf(tree) {
		if tree.Has(id) && tree.Parent(id) < 0 {
			root := 0
			if id > 0 {
				n := tree.Plain(id)
				root, _ = c.Text(n.Text)
				if n.Tag != api.TagText {
					c.Drop(root)
					root, _ = c.Element(n.Tag, n.Attrs...)
				}
			}
			for at, kid := range tree.Plain(id).Kids {
				c.Graft(root, at, kid)
			}
		}
	}
	return c
}

func wantP13_7(t *testing.T, tree *live.Tree, m *model, a, b place) {
	t.Helper()
	now, root := tree.Copy(), m.rootOf(a.Node)
	l, p, err := ranges.Extract(now, a, b)
	wantErr(t, err, api.OK, "Extract", a, b, m)
	err = ranges.Put(now, p, l...)
	if tree.Tag(root) == api.TagText && len(l) > 0 {
		wantErr(t, err, api.ErrKind, "Extract", a, b, m, "and Put")
		return
	}
	wantErr(t, err, api.OK, "Extract", a, b, m, "and Put")
	if got, want := parts.Flat(now, root), parts.Flat(tree, root); got != want {
		t.Fatalf("Extract(%v, %v) of %s, and Put: got %q, want %q", a, b, m, got, want)
	}
}

func TestP13_8TextOfThree(t *testing.T) {
	eachTree(t, slices.Concat(states(t, 6, 5, 4, true, "aé", ""), grown(t, 6)), func(t *testing.T, tree *live.Tree, m *model) {
		places := m.places()
		for a, b := range eachPair(places) {
			if !ranges.May(tree, a, b) {
				continue
			}
			first := ranges.Text(tree, a, b)
			for _, c := range places {
				if ranges.May(tree, b, c) && first+ranges.Text(tree, b, c) != ranges.Text(tree, a, c) {
					t.Fatalf("%v, %v, %v of %s", a, b, c, m)
				}
			}
		}
	})
}

// Rows of calls in trees of many shapes, with places held, some at one place.
func TestLongRowsOfCalls(t *testing.T) {
	for seed := range 40 {
		t.Run(fmt.Sprint(seed), func(t *testing.T) {
			t.Parallel()
			d := dice(seed)
			tree := newTree(t, 5+d.below(36), 2+d.below(6))
			for range 200 {
				sprout(tree, &d)
				places := modelOf(tree).places()
				tree.Hold(pick(&d, places...))
				wantThrown(t, &d, tree, pick(&d, places...), pick(&d, places...))
			}
		})
	}
}

func wantThrown(t *testing.T, d *dice, tree *live.Tree, a, b place) {
	t.Helper()
	before, then := modelOf(tree), modelOf(tree)
	var got, want string
	switch l := pick(d, slices.Concat(rows(), longRows())...); d.below(3) {
	case 0:
		p, err := ranges.Delete(tree, a, b)
		q, wantErr := then.remove(a, b)
		got, want = fmt.Sprint("Delete", p, err), fmt.Sprint("Delete", q, wantErr)
	case 1:
		l, p, err := ranges.Extract(tree, a, b)
		k, q, wantErr := then.extract(a, b)
		got, want = fmt.Sprint("Extract", l, p, err), fmt.Sprint("Extract", k, q, wantErr)
	case 2:
		got, want = fmt.Sprint("Put", ranges.Put(tree, a, l...)), fmt.Sprint("Put", then.put(a, l...))
	}
	if got != want {
		t.Fatalf("%v, %v of %s:\ngot  %s\nwant %s", a, b, before, got, want)
	}
	wantModel(t, tree, then, got, a, b, before)
}

func TestPlacesThatMayNotBe(t *testing.T) {
	tree := host(t, 5, elem(api.TagP, leaf("ab"), elem(api.TagB, leaf("c"))), leaf("d"))
	tree.Text("loose")
	holdAll(t, tree)
	m := modelOf(tree)
	var l []place
	for _, n := range far {
		l = append(l, spot(n, 0), spot(n, n), spot(0, n), spot(2, n), spot(6, n))
	}
	for _, p := range append(l, spot(0, 0), spot(2, 1), spot(6, 2)) {
		for _, q := range l {
			wantAsked(t, tree, m, p, q)
			wantAsked(t, tree, m, q, p)
			wantTold(t, tree, m, p, q)
			wantGone(t, tree, m, p, q)
			wantGone(t, tree, m, q, p)
			wantErr(t, ranges.Put(tree, q, leaf("x")), api.ErrArg, "Put", q)
			wantErr(t, ranges.Put(tree, q), api.ErrArg, "Put of nothing", q)
		}
	}
	wantModel(t, tree, m, "behind all")
}

// The deepest tree, and the fullest one.
func TestBoundsOfTheRoom(t *testing.T) {
	chain := func(s string) api.Node {
		n := leaf(s)
		for range api.MaxDepth - 1 {
			n = elem(api.TagSpan, leaf("<"), n, leaf(">"))
		}
		return n
	}
	tree := host(t, 0, chain("añb"), leaf("-"), chain("cd"))
	holdAll(t, tree)
	m := modelOf(tree)
	places := m.places()
	d := dice(1)
	for range 300 {
		a, b := pick(&d, places...), pick(&d, places...)
		wantAsked(t, tree, m, a, b)
		wantTold(t, tree, m, a, b)
		wantGone(t, tree, m, a, b)
		wantPut(t, tree, m, a, pick(&d, rows()...))
	}
	row := newTree(t, api.MaxNodes, 2)
	row.Graft(0, 0, elem(api.TagP))
	for i := range api.MaxNodes - 2 {
		row.Graft(1, i, leaf(string([]rune{'a' + rune(i%26), 'é'})))
	}
	m = modelOf(row)
	for _, c := range [][2]place{{spot(1, 0), spot(1, 1998)}, {spot(2, 1), spot(1999, 1)}, {spot(0, 0), spot(0, 1)}, {spot(700, 2), spot(1, 1400)}, {spot(1, 5), spot(0, 1)}, {spot(3, 2), spot(4, 0)}} {
		wantAsked(t, row, m, c[0], c[1])
		wantTold(t, row, m, c[0], c[1])
		wantGone(t, row, m, c[0], c[1])
	}
}

// All that is put at a time fills the room to its end, and one more is refused.
func TestP13_5AFullRoom(t *testing.T) {
	l := slices.Repeat([]api.Node{leaf("x")}, api.MaxNodes)
	tree := newTree(t, api.MaxNodes, 1)
	wantErr(t, ranges.Put(tree, spot(0, 0), l...), api.ErrFull, "one too many")
	if tree.Count() != 1 {
		t.Errorf("%d nodes", tree.Count())
	}
	wantErr(t, ranges.Put(tree, spot(0, 0), l[1:]...), api.OK, "as many as may be")
	if got := parts.Flat(tree, 0); got != strings.Repeat("x", api.MaxNodes-1) {
		t.Errorf("it says %q", got)
	}
	wantErr(t, ranges.Put(tree, spot(0, 7), leaf("")), api.ErrFull, "no room")
	wantErr(t, ranges.Put(newTree(t, 9, 9), spot(0, 0), slices.Repeat(l, 1000)...), api.ErrFull, "far beyond")
}

// Texts that are as long as may be are cut and told whole.
func TestLongTexts(t *testing.T) {
	long := strings.Repeat("é", 4096)
	tree := host(t, 5, elem(api.TagP, leaf(long)), leaf(long))
	if got := ranges.Text(tree, spot(2, 4000), spot(3, 4000)); got != strings.Repeat("é", 4096) {
		t.Errorf("%d bytes", len(got))
	}
	l, p, err := ranges.Extract(tree, spot(2, 1), spot(3, 4095))
	if err != api.OK || p != spot(0, 1) || !sameNodes(l, []api.Node{elem(api.TagP, leaf(long[2:])), leaf(long[2:])}) {
		t.Errorf("%v, %d", p, err)
	}
	wantHost(t, "Extract", tree, elem(api.TagP, leaf("é")), leaf("é"))
	wantErr(t, ranges.Put(tree, p, leaf(long), leaf(long)), api.OK, "Put")
	wantErr(t, ranges.Put(tree, p, leaf(long+"x")), api.ErrLong, "too long")
}

// Many places are held at one time.
func TestManyHandles(t *testing.T) {
	const count = 1 << 16
	tree := host(t, 3, elem(api.TagP, leaf("abcd")), leaf("e"))
	from := []place{spot(2, 0), spot(2, 3), spot(1, 1), spot(0, 1), spot(3, 1), spot(0, 2)}
	for i := range count {
		tree.Hold(from[i%6])
	}
	p, err := ranges.Delete(tree, spot(2, 1), spot(0, 2))
	wantErr(t, err, api.OK, "Delete")
	wantErr(t, ranges.Put(tree, p, leaf("x")), api.OK, "Put")
	wantErr(t, ranges.Put(tree, spot(0, 9), leaf("x")), api.ErrArg, "Put")
	for i := range count {
		if got, _ := tree.Held(i); got != []place{spot(2, 0), spot(2, 1), spot(1, 1), spot(0, 1), spot(0, 1), spot(0, 1)}[i%6] {
			t.Fatalf("%d is at %v", i, got)
		}
	}
}

// What is handed in is neither changed nor kept, also behind the list's end; what is answered is new.
func TestMemory(t *testing.T) {
	attrs := []api.Attr{{Name: "href", Value: "x"}, {Name: "style", Value: "y"}, {Name: "behind", Value: "the end"}}
	l := []api.Node{{Tag: api.TagA, Attrs: attrs[:2], Kids: []api.Node{leaf("ab")}}, leaf("c"), leaf("behind")}
	tree := newTree(t, 20, 5)
	wantErr(t, ranges.Put(tree, spot(0, 0), l[:2]...), api.OK, "Put")
	want := tree.Plain(0).Kids
	if len(attrs) != 3 || attrs[2].Name != "behind" || l[2].Text != "behind" || l[0].Kids[0].Text != "ab" {
		t.Errorf("what was handed in is %v", l)
	}
	attrs[0].Value, l[0].Kids[0].Text, l[1].Text = "changed", "changed", "changed"
	wantHost(t, "behind the change", tree, want...)
	first, _ := ranges.Clone(tree, spot(2, 1), spot(0, 2))
	whole, _ := ranges.Clone(tree, spot(0, 0), spot(0, 2))
	for _, n := range slices.Concat(first, whole) {
		for i := range n.Attrs {
			n.Attrs[i].Value = "changed"
		}
		for i := range n.Kids {
			n.Kids[i].Text = "changed"
		}
	}
	wantHost(t, "behind the change of a clone", tree, want...)
	again, _ := ranges.Clone(tree, spot(0, 0), spot(0, 2))
	if !sameNodes(again, want) {
		t.Errorf("another clone is %v", again)
	}
}

// unmade are trees that live's New did not make, and nil.
func unmade(t *testing.T) map[string]*live.Tree {
	t.Helper()
	tree := host(t, 5, elem(api.TagP, leaf("ab")))
	tree.Hold(spot(2, 1))
	copied := *tree
	plain, _ := dom.New(9, 9)
	exchanged := host(t, 5, elem(api.TagP, leaf("ab")))
	exchanged.Tree = tree.Tree.Copy()
	return map[string]*live.Tree{"nil": nil, "an empty one": {}, "a copied one": &copied, "one by hand": {Tree: plain}, "an exchanged one": exchanged}
}

func TestTreesThatNewDidNotMake(t *testing.T) {
	for name, tree := range unmade(t) {
		for a, b := range eachPair([]place{{}, spot(0, 1), spot(2, 1), spot(2, 9), spot(-1, 0)}) {
			if ranges.May(tree, a, b) || ranges.Text(tree, a, b) != "" {
				t.Errorf("%s: %v, %v is a range", name, a, b)
			}
			if id, ok := ranges.Common(tree, a, b); id != 0 || ok {
				t.Errorf("%s: Common %d, %t", name, id, ok)
			}
			l, err := ranges.Clone(tree, a, b)
			p, err2 := ranges.Delete(tree, a, b)
			k, q, err3 := ranges.Extract(tree, a, b)
			if len(l)+len(k) > 0 || p != q || p != (place{}) || err != api.ErrArg || err2 != api.ErrArg || err3 != api.ErrArg {
				t.Errorf("%s: %v, %d; %v, %d; %v, %v, %d", name, l, err, p, err2, k, q, err3)
			}
			wantErr(t, ranges.Put(tree, a), api.ErrArg, name)
			wantErr(t, ranges.Put(tree, b, leaf("x"), elem(99)), api.ErrArg, name)
		}
		if tree != nil && tree.Tree != nil && tree.Count() > 3 {
			t.Errorf("%s has more nodes", name)
		}
	}
}

func TestCopiesAreMade(t *testing.T) {
	tree := host(t, 5, elem(api.TagP, leaf("ab")))
	c := tree.Copy()
	_, err := ranges.Delete(c, spot(2, 1), spot(2, 2))
	wantErr(t, err, api.OK, "Delete")
	wantErr(t, ranges.Put(c, spot(2, 1), leaf("x")), api.OK, "Put")
	wantHost(t, "the first one", tree, elem(api.TagP, leaf("ab")))
	wantHost(t, "the copy", c, elem(api.TagP, leaf("a"), leaf("x")))
}

func TestExamples(t *testing.T) {
	line := func() *live.Tree {
		return host(t, 5, elem(api.TagP, elem(api.TagB, leaf("abc"))), leaf("d"))
	}
	tree := line()
	if got := ranges.Text(tree, spot(3, 1), spot(4, 1)); got != "bcd" {
		t.Errorf("Text: %q", got)
	}
	if got, err := ranges.Clone(tree, spot(3, 1), spot(4, 1)); err != api.OK || !sameNodes(got, []api.Node{elem(api.TagP, elem(api.TagB, leaf("bc"))), leaf("d")}) {
		t.Errorf("Clone: %v, %d", got, err)
	}
	if p, err := ranges.Delete(tree, spot(3, 1), spot(4, 1)); p != spot(0, 1) || err != api.OK {
		t.Errorf("Delete: %v, %d", p, err)
	}
	wantHost(t, "Delete", tree, elem(api.TagP, elem(api.TagB, leaf("a"))), leaf(""))
	tree = line()
	if p, err := ranges.Delete(tree, spot(0, 0), spot(0, 2)); p != spot(0, 0) || err != api.OK {
		t.Errorf("Delete of all: %v, %d", p, err)
	}
	wantHost(t, "Delete of all", tree)
	if tree.Count() != 1 {
		t.Errorf("%d nodes are left", tree.Count())
	}
}
