package parts_test

import (
	"fmt"
	"math"
	"slices"
	"strings"
	"testing"

	"quillwork/api"
	"quillwork/dom"
	"quillwork/live"
	"quillwork/order"
	"quillwork/parts"
)

func leaf(s string) api.Node { return api.Node{Text: s} }

func elem(tag int, kids ...api.Node) api.Node { return api.Node{Tag: tag, Kids: kids} }

// host has these kids in a room with so much left.
func host(t *testing.T, room int, kids ...api.Node) *live.Tree {
	t.Helper()
	whole := newTree(t, api.MaxNodes, api.MaxDepth)
	for at, kid := range kids {
		if _, err := whole.Graft(0, at, kid); err != api.OK {
			t.Fatalf("Graft of %v: %d", kid, err)
		}
	}
	tree := newTree(t, whole.Count()+room, api.MaxDepth)
	for at, kid := range kids {
		tree.Graft(0, at, kid)
	}
	return tree
}

func wantAnswer(t *testing.T, of string, want int, wantErr api.Errno) func(got int, err api.Errno) {
	return func(got int, err api.Errno) {
		t.Helper()
		if got != want || err != wantErr {
			t.Fatalf("%s: got %d, %d, want %d, %d", of, got, err, want, wantErr)
		}
	}
}

func wantErr(t *testing.T, of string, got, want api.Errno) {
	t.Helper()
	wantAnswer(t, of, 0, want)(0, got)
}

func wantHeld(t *testing.T, of string, tree *live.Tree, want ...place) {
	t.Helper()
	for handle, p := range want {
		if got, ok := tree.Held(handle); got != p || !ok {
			t.Fatalf("%s: the place of %d is %v, %t, want %v", of, handle, got, ok, p)
		}
	}
}

func wantPlain(t *testing.T, of string, tree *live.Tree, kids ...api.Node) {
	t.Helper()
	if got, want := fmt.Sprintf("%+v", tree.Plain(0).Kids), fmt.Sprintf("%+v", kids); got != want {
		t.Fatalf("%s: the host has %s, want %s", of, got, want)
	}
}

// eachTree makes each of the calls of each small tree, all of whose places are held: of those of up to three nodes beside the host whatever their numbers, of those of four whatever their shape; with and without room for one more.
func eachTree(t *testing.T, calls ...call) {
	t.Helper()
	for _, capacity := range []int{4, 5} {
		each(t, states(t, capacity, 4, 3, false, "aé", ""), calls)
	}
	each(t, states(t, 6, 5, 4, true, "aé", ""), calls)
}

func each(t *testing.T, trees []*live.Tree, calls []call) {
	t.Helper()
	for i, tree := range trees {
		t.Run(fmt.Sprint(i), func(t *testing.T) {
			t.Parallel()
			holdAll(t, tree)
			before := modelOf(tree)
			for _, c := range calls {
				now, then := tree, before
				want, err := c.model(then)
				if err == api.OK {
					now, before = tree.Copy(), modelOf(tree)
				}
				expect(t, now, before, then, c, want, err)
			}
		})
	}
}

// numbers are those around a small tree's nodes; counts those around how many kids or characters one has.
func numbers(yield func(n int) bool) {
	for n := -1; n <= 6; n++ {
		if !yield(n) {
			return
		}
	}
}

func counts(yield func(n int) bool) {
	for n := -1; n <= 5; n++ {
		if !yield(n) {
			return
		}
	}
}

func TestTheTestsTreesAreMany(t *testing.T) {
	if l := states(t, 4, 4, 3, false, "aé", ""); len(l) < 900 {
		t.Errorf("%d trees alone", len(l))
	}
	if l := states(t, 6, 5, 4, true, "aé", ""); len(l) < 900 {
		t.Errorf("%d shapes alone", len(l))
	}
}

func TestP12_1SplitTextInEachTree(t *testing.T) {
	var l []call
	for id := range numbers {
		for at := range counts {
			l = append(l, cutting(id, at))
		}
	}
	eachTree(t, l...)
}

func TestP12_2SplitInEachTree(t *testing.T) {
	var l []call
	for id := range numbers {
		for at := range counts {
			l = append(l, splitting(id, at))
		}
	}
	eachTree(t, l...)
}

func TestP12_3WrapInEachTree(t *testing.T) {
	var l []call
	for parent := range numbers {
		for at := range counts {
			for n := range counts {
				l = append(l, wrapping(parent, at, n, api.TagB))
			}
		}
		l = append(l, wrapping(parent, 0, 1, api.TagText), wrapping(parent, 0, 1, api.TagBr+1), wrapping(parent, 1, 1, api.TagBr+1), wrapping(parent, 0, 0, -1))
	}
	eachTree(t, l...)
}

func TestP12_4UnwrapInEachTree(t *testing.T) {
	var l []call
	for id := range numbers {
		l = append(l, unwrapping(id))
	}
	eachTree(t, l...)
}

func TestP12_5MoveInEachTree(t *testing.T) {
	var l []call
	for id := range numbers {
		for parent := range numbers {
			for at := range counts {
				l = append(l, moving(id, parent, at))
			}
		}
	}
	eachTree(t, l...)
}

func TestP12_6NormaliseInEachTree(t *testing.T) {
	var l []call
	for id := range numbers {
		l = append(l, normalising(id), normalising(id))
	}
	eachTree(t, l...)
}

func TestP12_7FlatInEachTree(t *testing.T) {
	for _, tree := range states(t, 6, 5, 4, true, "aé", "") {
		m := modelOf(tree)
		for id := range numbers {
			if got, want := parts.Flat(tree, id), m.flat(id); got != want {
				t.Fatalf("Flat of %d in %s: got %q, want %q", id, m, got, want)
			}
		}
		if !alike(m, modelOf(tree)) {
			t.Fatalf("Flat changed %s", m)
		}
	}
}

// In rows of texts each one is empty, short, long, or an element.
func TestP12_6EachRowOfKids(t *testing.T) {
	some := []api.Node{leaf(""), leaf("aé"), leaf(strings.Repeat("é", 4095)), elem(api.TagB, leaf(""), leaf("a"), leaf(""), leaf("é"), leaf(""))}
	var rows func(row []api.Node, left int)
	rows = func(row []api.Node, left int) {
		tree := host(t, 0, elem(api.TagP, row...))
		for _, id := range []int{0, 1} {
			c := tree.Copy()
			for id := range capacityOf(c) {
				c.Hold(spot(id, 0))
				c.Hold(spot(id, 1))
				c.Hold(spot(id, order.Length(c.Tree, id)))
			}
			for at := range row {
				c.Hold(spot(1, at))
			}
			do(t, c, normalising(id))
		}
		for i := 0; i < len(some) && left > 0; i++ {
			rows(slices.Concat(row, some[i:i+1]), left-1)
		}
	}
	rows(nil, 4)
}

func repeated(s string, bytes int) api.Node { return leaf(strings.Repeat(s, bytes/len(s))) }

func TestP12_6UpToMaxTextBytes(t *testing.T) {
	for _, c := range []struct {
		lengths, want []int
	}{
		{[]int{8190, 2}, []int{8192}},
		{[]int{8190, 4}, []int{8190, 4}},
		{[]int{2, 8190}, []int{8192}},
		{[]int{8192, 2, 2}, []int{8192, 4}},
		{[]int{8192, 0, 2}, []int{8192, 2}},
		{[]int{8192, 0, 8192}, []int{8192, 8192}},
		{[]int{4096, 4096, 2}, []int{8192, 2}},
		{[]int{2, 4096, 4096, 4}, []int{4098, 4100}},
		{[]int{8192, 8192, 8192}, []int{8192, 8192, 8192}},
		{[]int{8000, 400, 192, 7600, 2}, []int{8000, 8192, 2}},
	} {
		var kids, want []api.Node
		for _, n := range c.lengths {
			kids = append(kids, repeated("é", n))
		}
		for _, n := range c.want {
			want = append(want, repeated("é", n))
		}
		tree := host(t, 0, kids...)
		for id := 1; id < tree.Count(); id++ {
			tree.Hold(spot(id, order.Length(tree.Tree, id)))
			tree.Hold(spot(id, 0))
		}
		do(t, tree, normalising(0), normalising(0))
		if got := tree.Plain(0).Kids; !slices.EqualFunc(got, want, func(a, b api.Node) bool { return a.Text == b.Text }) {
			t.Errorf("of texts of %v bytes", c.lengths)
		}
	}
}

// MaxText is bytes, not characters.
func TestP12_6BytesAreCounted(t *testing.T) {
	tree := host(t, 0, repeated("é", 8000), repeated("x", 192))
	do(t, tree, normalising(0))
	wantPlain(t, "8000 and 192", tree, leaf(strings.Repeat("é", 4000)+strings.Repeat("x", 192)))
	tree = host(t, 0, repeated("é", 8000), repeated("x", 193))
	do(t, tree, normalising(0))
	wantPlain(t, "8000 and 193", tree, repeated("é", 8000), repeated("x", 193))
}

func TestP12_6TheTextThatIsToldStays(t *testing.T) {
	tree := host(t, 0, elem(api.TagP, leaf(""), leaf("a"), leaf("b")))
	for _, id := range []int{2, 3, 4} {
		do(t, tree, normalising(id))
	}
	wantPlain(t, "of texts", tree, elem(api.TagP, leaf(""), leaf("a"), leaf("b")))
}

func TestP12_6WithinTheNodeAlone(t *testing.T) {
	ahead, within, behind := elem(api.TagP, leaf("a"), leaf("b")), elem(api.TagQuote, leaf(""), elem(api.TagP, leaf("c"), leaf("d"))), elem(api.TagP, leaf(""), leaf("e"))
	tree := host(t, 0, leaf(""), ahead, within, behind, leaf("f"), leaf("g"))
	do(t, tree, normalising(5))
	wantPlain(t, "of 5", tree, leaf(""), ahead, elem(api.TagQuote, elem(api.TagP, leaf("cd"))), behind, leaf("f"), leaf("g"))
	do(t, tree, normalising(0))
	wantPlain(t, "of 0", tree, elem(api.TagP, leaf("ab")), elem(api.TagQuote, elem(api.TagP, leaf("cd"))), elem(api.TagP, leaf("e")), leaf("fg"))
}

func TestP12_3EachTag(t *testing.T) {
	tree := host(t, 1, elem(api.TagP, leaf("a")))
	for tag := -3; tag < 30; tag++ {
		do(t, tree.Copy(), wrapping(1, 0, 1, tag))
	}
	for _, tag := range far {
		if _, err := do(t, tree, wrapping(1, 0, 1, tag)); err != api.ErrArg {
			t.Errorf("of tag %d: %d", tag, err)
		}
	}
}

func TestP12_3AttributesAreOwn(t *testing.T) {
	tree := host(t, 2, elem(api.TagP, leaf("a")))
	l := []api.Attr{{Name: "href", Value: "x"}, {Name: "NO name!", Value: "\xff"}, {Name: "href", Value: "y"}, {Name: "behind", Value: "the end"}}
	row, was := l[:3], slices.Clone(l)
	do(t, tree, wrapping(1, 0, 1, api.TagA, row...), wrapping(1, 0, 0, api.TagP))
	if !slices.Equal(l, was) {
		t.Errorf("the attributes that were handed in are %v", l)
	}
	row[0].Value = "changed"
	if got := tree.Attrs(3); !slices.Equal(got, was[:3]) {
		t.Errorf("the attributes are %v", got)
	}
	if got := tree.Attrs(4); len(got) > 0 {
		t.Errorf("without attributes: %v", got)
	}
}

func TestP12_2TagAndAttributes(t *testing.T) {
	tree := host(t, 3, api.Node{Tag: api.TagA, Attrs: []api.Attr{{Name: "href", Value: "x"}, {Name: "style", Value: "y"}}, Kids: []api.Node{leaf("a"), leaf("b")}})
	do(t, tree, splitting(1, 1), splitting(1, 1), splitting(1, 0))
	for _, id := range tree.Kids(0) {
		if tree.Tag(id) != api.TagA || !slices.Equal(tree.Attrs(id), tree.Attrs(1)) {
			t.Errorf("%d is %v", id, tree.Plain(id))
		}
	}
	wantErr(t, "SetAttrs", tree.SetAttrs(1), api.OK)
	if got := tree.Attrs(4); len(got) != 2 {
		t.Errorf("the new one's attributes went with the old one's: %v", got)
	}
}

// Each number of each call may be far from all that there are.
func TestFarNumbers(t *testing.T) {
	tree := host(t, 3, elem(api.TagP, leaf("ab"), elem(api.TagB, leaf("c"))), leaf("d"))
	holdAll(t, tree)
	for _, n := range far {
		for _, c := range []call{
			cutting(n, 0), cutting(2, n), cutting(n, n), splitting(n, 0), splitting(1, n), splitting(n, n),
			wrapping(n, 0, 0, api.TagB), wrapping(1, n, 0, api.TagB), wrapping(1, 0, n, api.TagB), wrapping(1, 1, n, api.TagB), wrapping(1, n, -n, api.TagB), wrapping(1, n, n, api.TagB), wrapping(1, 2, n, n), wrapping(1, 0, 1, n),
			unwrapping(n), moving(n, 0, 0), moving(2, n, 0), moving(2, 0, n), moving(n, n, n), normalising(n),
		} {
			if _, err := do(t, tree, c); err == api.OK {
				t.Errorf("%s is done", c.name)
			}
		}
		if got := parts.Flat(tree, n); got != "" {
			t.Errorf("Flat of %d is %q", n, got)
		}
	}
	do(t, tree, wrapping(1, math.MinInt, math.MaxInt, api.TagB), wrapping(1, math.MaxInt, math.MinInt, api.TagB), wrapping(1, 2, math.MaxInt-1, api.TagB))
}

// Of several errors that apply the first one is told, here in a tree that is full and as deep as may be.
func TestOrderOfErrors(t *testing.T) {
	tree := newTree(t, 5, 3)
	tree.Graft(0, 0, elem(api.TagQuote, elem(api.TagP, leaf("ab"))))
	tree.Text("loose")
	for _, c := range []struct {
		call
		want api.Errno
	}{
		{cutting(9, 9), api.ErrNone}, {cutting(1, 9), api.ErrKind}, {cutting(3, 9), api.ErrArg}, {cutting(3, 1), api.ErrFull}, {cutting(4, 6), api.ErrArg}, {cutting(4, 5), api.ErrFull},
		{splitting(9, 9), api.ErrNone}, {splitting(3, 9), api.ErrKind}, {splitting(4, 0), api.ErrKind}, {splitting(0, 0), api.ErrArg}, {splitting(2, 2), api.ErrArg}, {splitting(2, 1), api.ErrFull},
		{wrapping(9, 9, 9, 0), api.ErrNone}, {wrapping(3, 9, 9, 0), api.ErrKind}, {wrapping(0, 0, 1, 0), api.ErrArg}, {wrapping(0, 0, 1, api.TagBr+1), api.ErrArg}, {wrapping(2, 1, 1, api.TagB), api.ErrArg}, {wrapping(0, 0, 1, api.TagB), api.ErrDeep}, {wrapping(2, 0, 1, api.TagB), api.ErrDeep}, {wrapping(2, 0, 0, api.TagB), api.ErrFull}, {wrapping(0, 1, 0, api.TagB), api.ErrFull},
		{unwrapping(9), api.ErrNone}, {unwrapping(3), api.ErrKind}, {unwrapping(4), api.ErrKind}, {unwrapping(0), api.ErrArg},
		{moving(9, 3, 9), api.ErrNone}, {moving(0, 9, 9), api.ErrNone}, {moving(0, 3, 9), api.ErrKind}, {moving(3, 3, 9), api.ErrKind}, {moving(0, 2, 0), api.ErrArg}, {moving(4, 0, 0), api.ErrArg}, {moving(1, 2, 2), api.ErrArg}, {moving(1, 2, 1), api.ErrLoop}, {moving(1, 1, 0), api.ErrLoop}, {moving(1, 1, 2), api.ErrArg}, {moving(2, 1, 1), api.ErrArg},
		{normalising(9), api.ErrNone},
	} {
		if _, err := do(t, tree, c.call); err != c.want {
			t.Errorf("%s: got %d, want %d", c.name, err, c.want)
		}
	}
}

func TestErrDeepOfWrapAndMove(t *testing.T) {
	tree := newTree(t, 9, 3)
	tree.Graft(0, 0, elem(api.TagQuote, elem(api.TagP, leaf("ab"))))
	tree.Graft(0, 1, elem(api.TagQuote, elem(api.TagP)))
	for _, c := range []struct {
		call
		want api.Errno
	}{
		{wrapping(0, 0, 1, api.TagQuote), api.ErrDeep}, {wrapping(0, 0, 2, api.TagQuote), api.ErrDeep}, {wrapping(1, 0, 1, api.TagQuote), api.ErrDeep}, {wrapping(2, 0, 1, api.TagB), api.ErrDeep},
		{moving(1, 4, 0), api.ErrDeep}, {moving(2, 5, 0), api.ErrDeep}, {moving(4, 2, 0), api.ErrDeep}, {moving(5, 2, 0), api.OK}, {moving(5, 4, 0), api.OK}, {wrapping(0, 1, 1, api.TagQuote), api.OK},
	} {
		if _, err := do(t, tree, c.call); err != c.want {
			t.Errorf("%s: got %d, want %d", c.name, err, c.want)
		}
	}
}

// The deepest tree, and the fullest one.
func TestBoundsOfTheRoom(t *testing.T) {
	chain := leaf("ab")
	for range api.MaxDepth - 1 {
		chain = elem(api.TagSpan, chain)
	}
	tree := host(t, 9, chain)
	holdAll(t, tree)
	do(t, tree, wrapping(0, 0, 1, api.TagB), cutting(40, 1), splitting(39, 1), splitting(38, 1), splitting(1, 1), unwrapping(20), wrapping(9, 0, 1, api.TagB), moving(30, 0, 1), moving(0, 30, 0), normalising(0))
	full := newTree(t, api.MaxNodes, 2)
	full.Graft(0, 0, elem(api.TagP))
	for i := range api.MaxNodes - 4 {
		full.Graft(1, i, leaf(string([]rune{'a' + rune(i%26), 'é'})))
	}
	for _, p := range []place{spot(1, 0), spot(1, 1), spot(1, 1000), spot(1, 1996), spot(2, 1), spot(1000, 2), spot(1997, 2)} {
		full.Hold(p)
	}
	do(t, full, splitting(1, 1000), cutting(1500, 1), cutting(1501, 1), unwrapping(1998), moving(1000, 1, 500), normalising(0), wrapping(1, 0, 1, api.TagB), wrapping(1, 0, 1, api.TagB))
}

// Many places are held at one time.
func TestManyHandles(t *testing.T) {
	const count = 1 << 16
	tree := host(t, 2, elem(api.TagP, leaf("ab")))
	for i := range count {
		tree.Hold(spot(2, i%3))
	}
	wantAnswer(t, "SplitText", 3, api.OK)(parts.SplitText(tree, 2, 1))
	wantAnswer(t, "Wrap", 4, api.OK)(parts.Wrap(tree, 1, 1, 1, api.TagB))
	for i := range count {
		if got, _ := tree.Held(i); got != []place{spot(2, 0), spot(2, 1), spot(3, 1)}[i%3] {
			t.Fatalf("%d is at %v", i, got)
		}
	}
	wantErr(t, "Unwrap", parts.Unwrap(tree, 4), api.OK)
	wantErr(t, "Normalise", parts.Normalise(tree, 0), api.OK)
	for i := range count {
		if got, _ := tree.Held(i); got != spot(2, i%3) {
			t.Fatalf("%d is at %v then", i, got)
		}
	}
}

// Handles keep their numbers, and those that are free stay free.
func TestHandlesWithGaps(t *testing.T) {
	tree := host(t, 3, elem(api.TagP, leaf("abc")))
	for at := range 4 {
		tree.Hold(spot(2, at))
	}
	tree.Free(0)
	tree.Free(2)
	do(t, tree, cutting(2, 2), wrapping(1, 1, 1, api.TagB), moving(3, 1, 0), splitting(4, 0), unwrapping(4), normalising(1))
	if got := tree.Handles(); !slices.Equal(got, []int{1, 3}) {
		t.Errorf("the handles are %v", got)
	}
}

func TestLooseNodes(t *testing.T) {
	tree := newTree(t, 20, 5)
	tree.Element(api.TagP)
	tree.Text("abc")
	tree.Text("de")
	holdAll(t, tree)
	do(t, tree, cutting(2, 1), cutting(4, 0), wrapping(1, 0, 0, api.TagB), splitting(1, 0), splitting(6, 0), unwrapping(1), moving(6, 7, 0), moving(7, 6, 0), moving(2, 6, 0), moving(6, 0, 0), moving(7, 0, 1), moving(6, 7, 0), normalising(1), normalising(2))
}

// Rows of calls in trees of many shapes, with places held, some at one place.
func TestLongRowsOfCalls(t *testing.T) {
	for seed := range 60 {
		t.Run(fmt.Sprint(seed), func(t *testing.T) {
			t.Parallel()
			d := dice(seed)
			tree := newTree(t, 5+d.below(40), 2+d.below(6))
			tree.Graft(0, 0, elem(api.TagP, leaf("añb"), elem(api.TagB), leaf("")))
			for range 400 {
				wander(tree, &d)
				do(t, tree, thrown(&d, tree))
			}
		})
	}
}

// wander has the tree grow, and places be held, now and then.
func wander(tree *live.Tree, d *dice) {
	capacity := capacityOf(tree)
	switch d.below(6) {
	case 0:
		tree.Graft(d.below(capacity), d.below(3), elem(pick(d, api.TagP, api.TagA), leaf(pick(d, "", "xyz", "é")), leaf("uv")))
	case 1:
		tree.Graft(d.below(capacity), d.below(3), leaf(pick(d, "", "añb", "cdef")))
	case 2:
		tree.Remove(1 + d.below(capacity-1))
	case 3:
		id := d.below(capacity)
		tree.Hold(spot(id, d.below(2+max(0, order.Length(tree.Tree, id)))))
	case 4:
		if tree.Count() > capacity/2 {
			tree.Drop(1 + d.below(capacity-1))
		}
	}
}

func thrown(d *dice, tree *live.Tree) call {
	id, other, at := d.below(capacityOf(tree)), d.below(capacityOf(tree)), d.below(4)
	switch d.below(6) {
	case 0:
		return cutting(id, at)
	case 1:
		return splitting(id, at)
	case 2:
		return wrapping(id, at, d.below(4), 1+d.below(16), make([]api.Attr, d.below(3))...)
	case 3:
		return unwrapping(id)
	case 4:
		return moving(id, other, at)
	}
	return normalising(id)
}

// unmade are trees that live's New did not make, and nil.
func unmade(t *testing.T) map[string]*live.Tree {
	t.Helper()
	tree := host(t, 5, elem(api.TagP, leaf("ab")))
	tree.Hold(spot(2, 1))
	copied := *tree
	plain, _ := dom.New(9, 9)
	exchanged := host(t, 5, elem(api.TagP, leaf("ab")))
	exchanged.Tree = tree.Tree.Copy()
	return map[string]*live.Tree{"nil": nil, "an empty one": {}, "a copied one": &copied, "one by hand": {Tree: plain}, "an exchanged one": exchanged}
}

func TestTreesThatNewDidNotMake(t *testing.T) {
	for name, tree := range unmade(t) {
		for _, id := range slices.Concat(far, []int{-1, 0, 1, 2, 9}) {
			for _, c := range []call{cutting(id, 0), splitting(id, 0), wrapping(id, 0, 0, api.TagB), wrapping(id, 9, -1, 0), unwrapping(id), moving(id, 0, 0), moving(1, id, 0), normalising(id)} {
				wantAnswer(t, name+": "+c.name, 0, api.ErrArg)(c.tree(tree))
			}
			if got := parts.Flat(tree, id); got != "" {
				t.Errorf("%s: Flat(%d) = %q", name, id, got)
			}
		}
		if tree != nil && tree.Tree != nil && tree.Count() > 3 {
			t.Errorf("%s has more nodes", name)
		}
	}
}

func TestCopiesAreMade(t *testing.T) {
	tree := host(t, 5, elem(api.TagP, leaf("ab")))
	c := tree.Copy()
	do(t, c, cutting(2, 1), wrapping(1, 0, 1, api.TagB), splitting(1, 1), moving(3, 0, 0), unwrapping(1), normalising(0))
	wantPlain(t, "the first one", tree, elem(api.TagP, leaf("ab")))
	if got := parts.Flat(c, 0); got != "ba" {
		t.Errorf("Flat of the copy is %q", got)
	}
}

func TestP12_7Flat(t *testing.T) {
	tree := host(t, 3, leaf("a"), elem(api.TagQuote, elem(api.TagP, leaf("b"), elem(api.TagBr), elem(api.TagB, leaf("ñ"), leaf("")), leaf("\xff"))), elem(api.TagP), leaf("d"))
	tree.Text("loose")
	for id, want := range []string{"abñ\uFFFDd", "a", "bñ\uFFFD", "bñ\uFFFD", "b", "", "ñ", "ñ", "", "\uFFFD", "", "d", "loose", ""} {
		if got := parts.Flat(tree, id); got != want {
			t.Errorf("Flat(%d) = %q, want %q", id, got, want)
		}
	}
}

// By all of the calls but Move, which puts texts elsewhere, a tree's texts are the same.
func TestP12_8FlatOfTheHost(t *testing.T) {
	for _, tree := range states(t, 6, 5, 4, true, "aé", "", "z") {
		want := parts.Flat(tree, 0)
		for id := range 6 {
			for at := range 4 {
				for _, c := range []call{cutting(id, at), splitting(id, at), wrapping(id, at, 1, api.TagB), wrapping(id, 0, at, api.TagB), unwrapping(id), normalising(id)} {
					now := tree.Copy()
					c.tree(now)
					if got := parts.Flat(now, 0); got != want {
						t.Fatalf("%s of %s: %q was %q", c.name, modelOf(tree), got, want)
					}
				}
			}
		}
	}
}

// P12.5 goes ahead of what follows: texts are told in the order in which they stand now.
func TestP12_8FlatOfAMovedNode(t *testing.T) {
	tree := host(t, 0, elem(api.TagP, leaf("a")), elem(api.TagP, leaf("b")), elem(api.TagP))
	for _, c := range []struct {
		call
		want string
	}{{moving(2, 0, 0), "ab"}, {moving(5, 0, 0), "ab"}, {moving(3, 0, 0), "ba"}, {moving(2, 3, 0), "ab"}} {
		do(t, tree, c.call)
		if got := parts.Flat(tree, 0); got != c.want {
			t.Errorf("behind %s: got %q, want %q", c.name, got, c.want)
		}
	}
}

func TestP12_9WrapAndUnwrap(t *testing.T) {
	for _, tree := range states(t, 6, 5, 4, true, "aé", "") {
		holdAll(t, tree)
		before := modelOf(tree)
		for parent := range 6 {
			for at := range 5 {
				for n := range 5 {
					fresh, err := parts.Wrap(tree, parent, at, n, api.TagB)
					if err == api.OK {
						wantErr(t, "Unwrap", parts.Unwrap(tree, fresh), api.OK)
					}
					if now := modelOf(tree); !alike(now, before) {
						t.Fatalf("%d kids of %d, from %d on:\ngot  %s\nwant %s", n, parent, at, now, before)
					}
				}
			}
		}
	}
}

// Of a text that is cut at its begin the part that has bytes is the new one: it stays. All other cuts leave no trace.
func TestP12_9SplitTextAndNormalise(t *testing.T) {
	for _, around := range [][]api.Node{{elem(api.TagP, leaf("abé"))}, {elem(api.TagP, elem(api.TagB, leaf("abé")))}, {leaf("abé")}, {elem(api.TagP), elem(api.TagP, elem(api.TagBr), leaf("abé"), elem(api.TagBr))}} {
		tree := host(t, 1, around...)
		holdAll(t, tree)
		before := modelOf(tree)
		text := slices.IndexFunc(order.All(tree.Tree, 0), func(id int) bool { return tree.Told(id) != "" })
		for at := 1; at <= 3; at++ {
			do(t, tree, cutting(text, at), normalising(tree.Parent(text)))
			if now := modelOf(tree); !alike(now, before) {
				t.Fatalf("cut at %d:\ngot  %s\nwant %s", at, now, before)
			}
		}
		do(t, tree, cutting(text, 0), normalising(0))
		wantPlain(t, "cut at 0", tree, around...)
	}
}

// The places in the node, and within it, go with it, and are where they were when it is back; so is all of the tree.
func TestP12_10MovedAndMovedBack(t *testing.T) {
	for _, tree := range states(t, 5, 5, 4, true, "aé", "") {
		before := modelOf(tree).String()
		for id := range 5 {
			from, was := tree.Parent(id), tree.Index(id)
			for _, n := range order.All(tree.Tree, id) {
				tree.Hold(spot(n, 0))
				tree.Hold(spot(n, order.Length(tree.Tree, n)))
			}
			held := modelOf(tree)
			for parent := range 5 {
				for at := range 5 {
					if parts.Move(tree, id, parent, at) == api.OK {
						wantErr(t, "back", parts.Move(tree, id, from, was), api.OK)
					}
					if now := modelOf(tree); !alike(now, held) {
						t.Fatalf("%d to %d, %d, and back:\ngot  %s\nwant %s", id, parent, at, now, held)
					}
				}
			}
			for _, handle := range tree.Handles() {
				tree.Free(handle)
			}
		}
		if now := modelOf(tree).String(); now != before {
			t.Fatalf("got %s, want %s", now, before)
		}
	}
}

// An element that is cut has both parts side by side; unwrapped they leave the kids that it had, in order.
func TestP12_10CutAndUnwrapped(t *testing.T) {
	for at := range 4 {
		tree := host(t, 1, leaf("ahead"), elem(api.TagP, leaf("a"), elem(api.TagB, leaf("b")), leaf("c")), leaf("behind"))
		holdAll(t, tree)
		kids := tree.Kids(2)
		fresh, _ := do(t, tree, splitting(2, at))
		if got := tree.Kids(0); !slices.Equal(got, []int{1, 2, fresh, 7}) {
			t.Fatalf("cut at %d the host has %v", at, got)
		}
		do(t, tree, unwrapping(fresh), unwrapping(2))
		if got, want := tree.Kids(0), slices.Concat([]int{1}, kids, []int{7}); !slices.Equal(got, want) {
			t.Fatalf("cut at %d, and unwrapped, the host has %v, not %v", at, got, want)
		}
	}
}

func TestExamples(t *testing.T) {
	line := func() *live.Tree {
		tree := host(t, 5, elem(api.TagP, leaf("xyz")))
		tree.Hold(spot(2, 2))
		tree.Hold(spot(1, 1))
		return tree
	}
	tree := line()
	wantAnswer(t, "SplitText(2, 1)", 3, api.OK)(parts.SplitText(tree, 2, 1))
	wantHeld(t, "SplitText(2, 1)", tree, spot(3, 1), spot(1, 2))
	wantPlain(t, "SplitText(2, 1)", tree, elem(api.TagP, leaf("x"), leaf("yz")))
	wantErr(t, "Normalise(0)", parts.Normalise(tree, 0), api.OK)
	wantHeld(t, "Normalise(0)", tree, spot(2, 2), spot(1, 1))
	wantPlain(t, "Normalise(0)", tree, elem(api.TagP, leaf("xyz")))
	tree = line()
	wantAnswer(t, "Wrap(1, 0, 1, TagB)", 3, api.OK)(parts.Wrap(tree, 1, 0, 1, api.TagB))
	wantHeld(t, "Wrap(1, 0, 1, TagB)", tree, spot(2, 2), spot(1, 1))
	wantPlain(t, "Wrap(1, 0, 1, TagB)", tree, elem(api.TagP, elem(api.TagB, leaf("xyz"))))
}
