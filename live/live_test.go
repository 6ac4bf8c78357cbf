package live_test

import (
	"fmt"
	"math"
	"slices"
	"strings"
	"testing"
	"unsafe"

	"quillwork/api"
	"quillwork/dom"
	"quillwork/live"
	"quillwork/order"
)

func leaf(s string) api.Node { return api.Node{Text: s} }

func elem(tag int, kids ...api.Node) api.Node { return api.Node{Tag: tag, Kids: kids} }

func newTree(t *testing.T, capacity, depth int) *live.Tree {
	t.Helper()
	tree, err := live.New(capacity, depth)
	if err != api.OK || tree == nil {
		t.Fatalf("New(%d, %d) = %v, %d", capacity, depth, tree, err)
	}
	return tree
}

func wantErr(t *testing.T, of string, got, want api.Errno) {
	t.Helper()
	if got != want {
		t.Fatalf("%s: got %d, want %d", of, got, want)
	}
}

func wantHandle(t *testing.T, of any, want int) func(got int, err api.Errno) {
	return func(got int, err api.Errno) {
		t.Helper()
		if got != want || err != api.OK {
			t.Fatalf("%v: got %d, %d, want %d", of, got, err, want)
		}
	}
}

func wantHeld(t *testing.T, tree *live.Tree, handle int, want place) {
	t.Helper()
	if got, ok := tree.Held(handle); got != want || !ok {
		t.Fatalf("Held(%d) = %v, %t, want %v", handle, got, ok, want)
	}
}

// line is a tree of a host with a p 1 with this text 2; a place of it is held.
func line(t *testing.T, s string, p place) *live.Tree {
	t.Helper()
	tree := newTree(t, 20, 9)
	if id, err := tree.Graft(0, 0, elem(api.TagP, leaf(s))); id != 1 || err != api.OK {
		t.Fatalf("Graft = %d, %d", id, err)
	}
	wantHandle(t, p, 0)(tree.Hold(p))
	return tree
}

func TestP11_1New(t *testing.T) {
	numbers := slices.Concat(far, []int{-2, -1, 0, 1, 2, 39, 40, 41, 1999})
	for _, capacity := range numbers {
		for _, depth := range numbers {
			plain, want := dom.New(capacity, depth)
			tree, err := live.New(capacity, depth)
			if err != want || (tree == nil) != (plain == nil) {
				t.Fatalf("New(%d, %d) = %v, %d, want error %d", capacity, depth, tree, err, want)
			}
			if tree != nil && (told(tree.Tree) != told(plain) || len(tree.Handles()) > 0) {
				t.Fatalf("New(%d, %d) is %s", capacity, depth, told(tree.Tree))
			}
		}
	}
}

// dom's other calls are the live tree's too.
func TestP11_1DomsOthers(t *testing.T) {
	tree := newTree(t, 9, 3)
	p, err := tree.Element(api.TagP, api.Attr{Name: "style", Value: "x"})
	wantErr(t, "Element", err, api.OK)
	s, err := tree.Text("añ")
	wantErr(t, "Text", err, api.OK)
	wantErr(t, "Insert", tree.Insert(0, 0, p), api.OK)
	wantErr(t, "Insert", tree.Insert(p, 0, s), api.OK)
	wantErr(t, "SetTag", tree.SetTag(p, api.TagH1), api.OK)
	wantErr(t, "SetAttrs", tree.SetAttrs(p), api.OK)
	capacity, depth := tree.Room()
	got := fmt.Sprint(tree.Has(s), tree.Tag(p), tree.Attrs(p), tree.Told(s), tree.Kids(p), tree.Parent(s), tree.Index(s), tree.Depth(s), tree.Height(0), tree.Live(s), tree.Count(), capacity, depth, tree.Plain(0))
	if want := "true 3 []añ[2] 1 0 2 2 true 3 9 3 {1 []  [{3 []  [{0 [] añ []}]}]}"; got != want {
		t.Errorf("got %s, want %s", got, want)
	}
}

// small are all trees of the host and up to three nodes.
func small(t *testing.T) []pair { return states(t, 4, 3, building(4, "ab", "")) }

func TestTheTestsTreesAreMany(t *testing.T) {
	if l := small(t); len(l) < 300 {
		t.Errorf("%d trees alone", len(l))
	}
}

func TestP11_2HoldOfEachPlace(t *testing.T) {
	for _, p := range small(t) {
		for id := -2; id < 6; id++ {
			for at := -2; at < 6; at++ {
				q := p.copied()
				q.do(t, holding(spot(id, at)), holding(spot(0, 0)), placing(0, spot(id, at)))
			}
		}
	}
}

func TestP11_2FarPlaces(t *testing.T) {
	p := newPair(t, 9, 9)
	p.do(t, graft(0, 0, elem(api.TagP, leaf("ab"))), holding(spot(2, 2)))
	for _, n := range far {
		for _, at := range []place{spot(n, 0), spot(0, n), spot(1, n), spot(2, n), spot(n, n)} {
			p.do(t, holding(at), placing(0, at))
		}
	}
	for _, n := range slices.Concat(far, []int{-2, -1, 1, 2}) {
		if got, ok := p.tree.Held(n); ok || got != spot(0, 0) {
			t.Fatalf("Held(%d) = %v, %t", n, got, ok)
		}
		p.do(t, freeing(n), placing(n, spot(0, 0)), placing(n, spot(0, 9)))
	}
}

func TestP11_2LeastNumbers(t *testing.T) {
	p := newPair(t, 9, 9)
	host := holding(spot(0, 0))
	p.do(t, host, host, host, host, freeing(1), freeing(2), host, freeing(0), host, host, host)
	p.do(t, freeing(3), freeing(2), host, freeing(4), host, freeing(0), freeing(1), freeing(2), freeing(3), freeing(4), freeing(4), host)
}

// Each row of holding and freeing up to some length is gone through.
func TestP11_2EachRowOfHoldingAndFreeing(t *testing.T) {
	first := newPair(t, 3, 1)
	first.do(t, text("ab"))
	var on func(p pair, left int)
	on = func(p pair, left int) {
		if left == 0 {
			return
		}
		calls := []call{holding(spot(1, left%3))}
		for handle := range 4 {
			calls = append(calls, freeing(handle))
		}
		for _, c := range calls {
			q := p.copied()
			q.do(t, c)
			on(q, left-1)
		}
	}
	on(first, 6)
}

func TestP11_2HandlesOfOnePlaceAreTheirOwn(t *testing.T) {
	tree := line(t, "xy", spot(2, 1))
	wantHandle(t, "Hold", 1)(tree.Hold(spot(2, 1)))
	wantErr(t, "Place", tree.Place(0, spot(2, 2)), api.OK)
	wantHeld(t, tree, 0, spot(2, 2))
	wantHeld(t, tree, 1, spot(2, 1))
	wantErr(t, "Free", tree.Free(0), api.OK)
	wantHeld(t, tree, 1, spot(2, 1))
}

func TestP11_2OfLooseNodes(t *testing.T) {
	p := newPair(t, 9, 9)
	p.do(t, element(api.TagP), text("ab"), holding(spot(1, 0)), holding(spot(2, 2)), insertion(1, 0, 2), holding(spot(1, 1)), placing(0, spot(2, 1)), removal(2), dropping(2), dropping(1))
}

func TestP11_2ManyHandles(t *testing.T) {
	const count = 1 << 17
	tree := line(t, "xy", spot(2, 0))
	for i := 1; i < count; i++ {
		wantHandle(t, i, i)(tree.Hold(spot(2, i%3)))
	}
	wantErr(t, "Replace", tree.Replace(2, 0, 0, "ab"), api.OK)
	for i, handle := range tree.Handles() {
		if i != handle {
			t.Fatalf("the handle %d is %d", i, handle)
		}
		wantHeld(t, tree, i, spot(2, []int{0, 3, 4}[i%3]))
		wantErr(t, "Free", tree.Free(i), api.OK)
		if _, ok := tree.Held(i); ok {
			t.Fatalf("%d is a handle still", i)
		}
	}
	wantHandle(t, "behind all", 0)(tree.Hold(spot(0, 0)))
	if got := tree.Handles(); !slices.Equal(got, []int{0}) {
		t.Errorf("there are %d handles", len(got))
	}
}

// changes are all that change a tree, with all numbers around those that may be.
func changes(capacity int) []call {
	var l []call
	for id := -1; id <= capacity; id++ {
		l = append(l, removal(id), dropping(id), setting(id, ""), setting(id, "é\xffz"), setting(id, long(8193)))
		for at := -1; at <= capacity; at++ {
			for kid := -1; kid <= capacity; kid++ {
				l = append(l, insertion(id, at, kid))
			}
			for _, n := range []api.Node{leaf("a"), elem(api.TagB, leaf("ab")), elem(0, leaf("")), leaf(long(8193)), elem(api.TagP, elem(api.TagP, elem(api.TagP, elem(api.TagP))))} {
				l = append(l, graft(id, at, n))
			}
			for count := -1; count <= 3; count++ {
				for _, s := range []string{"", "é", "a\xff\x80"} {
					l = append(l, replacement(id, at, count, s))
				}
			}
			l = append(l, replacement(id, at, math.MaxInt, "é"), replacement(id, at, 0, long(8193)), replacement(id, at, -1, long(8193)))
		}
	}
	return l
}

func long(bytes int) string { return strings.Repeat("x", bytes) }

// Of each small tree each place is held; each change is made of that.
func TestP11_3To5EachChangeOfEachTree(t *testing.T) {
	all := changes(4)
	for _, p := range small(t) {
		t.Run(told(p.model.twin), func(t *testing.T) {
			t.Parallel()
			p := p.copied()
			p.holdAll(t)
			ahead := p.copied()
			for _, c := range all {
				if q := p.copied(); q.do(t, c) != api.OK {
					if s := unlike(q.tree, ahead.model); s != "" {
						t.Fatalf("%s: beside an error: %s", q.way, s)
					}
				}
			}
			if s := unlike(p.tree, ahead.model); s != "" {
				t.Fatalf("%s: its copies' changes changed it: %s", p.way, s)
			}
		})
	}
}

func TestP11_3To5FarNumbers(t *testing.T) {
	p := newPair(t, 9, 9)
	p.do(t, graft(0, 0, elem(api.TagP, leaf("ab"))), element(api.TagB))
	p.holdAll(t)
	for _, n := range far {
		p.do(t, insertion(n, 0, 3), insertion(0, n, 3), insertion(0, 0, n), graft(n, 0, leaf("a")), graft(0, n, leaf("a")), removal(n), dropping(n), setting(n, "a"), replacement(n, 0, 0, "a"), replacement(2, n, 0, "a"))
		q := p.copied()
		q.do(t, replacement(2, 1, n, "é"))
	}
}

func TestP11_3Insert(t *testing.T) {
	for at := range 3 {
		p := newPair(t, 9, 9)
		p.do(t, graft(0, 0, leaf("ab")), graft(0, 1, elem(api.TagP, leaf("c"))), element(api.TagP), text("de"), insertion(4, 0, 5))
		p.holdAll(t)
		if p.do(t, insertion(0, at, 4)) != api.OK {
			t.Errorf("Insert(0, %d, 4) was not done", at)
		}
	}
}

func TestP11_3Graft(t *testing.T) {
	for at := range 3 {
		p := newPair(t, 9, 9)
		p.do(t, graft(0, 0, leaf("ab")), graft(0, 1, elem(api.TagP, leaf("c"))))
		p.holdAll(t)
		if p.do(t, graft(0, at, elem(api.TagUl, leaf("x"), leaf("y")))) != api.OK {
			t.Errorf("Graft(0, %d) was not done", at)
		}
	}
}

func TestP11_4RemoveOfEachNode(t *testing.T) {
	n := elem(api.TagUl, elem(api.TagLi, leaf("ab"), elem(api.TagB, leaf("c")), leaf("d")), elem(api.TagLi), leaf("e"))
	first := newPair(t, 20, 9)
	first.do(t, graft(0, 0, n), graft(0, 1, leaf("f")), graft(0, 0, n))
	first.holdAll(t)
	for id := 1; id < first.tree.Count(); id++ {
		p := first.copied()
		if p.do(t, removal(id)) != api.OK {
			t.Fatalf("Remove(%d) was not done", id)
		}
		p.do(t, dropping(id))
	}
}

func TestP11_4DropOfEachLooseNode(t *testing.T) {
	first := newPair(t, 20, 9)
	first.do(t, graft(0, 0, elem(api.TagP, leaf("ab"))), element(api.TagP), text("cd"), text("e"), element(api.TagB), insertion(3, 0, 6), insertion(6, 0, 4), insertion(3, 0, 5), text("f"))
	first.holdAll(t)
	for _, id := range []int{3, 7} {
		p := first.copied()
		if p.do(t, dropping(id)) != api.OK {
			t.Fatalf("Drop(%d) was not done", id)
		}
	}
}

func TestP11_5EachReplaceOfSomeTexts(t *testing.T) {
	for _, s := range []string{"", "a", "aé", "é\U0001F600\ufffd", "\xffab\xe2\x82"} {
		p := newPair(t, 9, 9)
		p.do(t, graft(0, 0, elem(api.TagP, leaf(s), leaf("other"))))
		p.holdAll(t)
		for at := -1; at <= 7; at++ {
			for count := -1; count <= 7; count++ {
				for _, with := range []string{"", "z", "éé", "\xa9", "\x80z\xc3"} {
					q := p.copied()
					q.do(t, replacement(2, at, count, with))
					q.do(t, setting(2, with))
				}
			}
		}
	}
}

// Which error is answered, where several apply.
func TestP11_5ErrorsInTheirOrder(t *testing.T) {
	tree := line(t, "xy", spot(2, 2))
	for _, c := range []struct {
		id, at, count int
		s             string
		want          api.Errno
	}{
		{9, -1, -1, long(8193), api.ErrNone}, {-1, 0, 0, "", api.ErrNone}, {20, 0, 0, "", api.ErrNone},
		{1, -1, -1, long(8193), api.ErrKind}, {0, 0, 0, "", api.ErrKind}, {1, 9, 0, "", api.ErrKind},
		{2, -1, 0, "", api.ErrArg}, {2, 3, 0, "", api.ErrArg}, {2, 0, -1, "", api.ErrArg}, {2, 3, 0, long(8193), api.ErrArg}, {2, 2, -1, long(8193), api.ErrArg},
		{2, 0, 0, long(8191), api.ErrLong}, {2, 0, 2, long(8193), api.ErrLong}, {2, 2, 0, strings.Repeat("\xff", 2731), api.ErrLong},
		{2, 2, 9, "", api.OK}, {2, 0, math.MaxInt, "xy", api.OK},
	} {
		wantErr(t, fmt.Sprintf("Replace(%d, %d, %d, %.9q)", c.id, c.at, c.count, c.s), tree.Replace(c.id, c.at, c.count, c.s), c.want)
		if got := tree.Told(2); got != "xy" {
			t.Fatalf("the text is %.9q now", got)
		}
	}
	for id, want := range map[int]api.Errno{9: api.ErrNone, -1: api.ErrNone, 0: api.ErrKind, 1: api.ErrKind, 2: api.ErrLong} {
		wantErr(t, fmt.Sprintf("SetText(%d)", id), tree.SetText(id, long(8193)), want)
	}
}

func TestP11_5AtTheLimit(t *testing.T) {
	p := newPair(t, 9, 9)
	p.do(t, graft(0, 0, leaf(long(8190))), holding(spot(1, 0)), holding(spot(1, 8190)), holding(spot(1, 100)))
	for _, c := range []struct {
		at, count int
		s         string
	}{
		{0, 0, "xx"}, {8190, 0, "xx"}, {100, 0, "é"}, {0, 0, "xxx"}, {8190, 0, "\xff"}, {100, 0, "xé"}, {0, 1, "\xff"}, {0, 1, "é"}, {0, 1, "éx"}, {99, 1, "\xffx"},
		{0, 8190, long(8192)}, {0, 8190, long(8193)}, {0, 8190, strings.Repeat("\xff", 2730)}, {0, 8190, strings.Repeat("\xff", 2730) + "xx"}, {0, 8190, strings.Repeat("\xff", 2731)}, {0, 8189, long(8191)}, {0, 8189, long(8192)}, {1, 8190, strings.Repeat("é", 4095) + "x"}, {1, 8190, strings.Repeat("é", 4096)},
	} {
		q := p.copied()
		q.do(t, replacement(1, c.at, c.count, c.s))
		r := p.copied()
		r.do(t, setting(1, c.s))
	}
}

func TestP11_5TextsThatAreFarTooLong(t *testing.T) {
	p := newPair(t, 9, 9)
	p.do(t, graft(0, 0, leaf("ab")), holding(spot(1, 1)))
	for _, s := range []string{long(1 << 26), strings.Repeat("\xff", 1<<20)} {
		wantErr(t, "Replace", p.tree.Replace(1, 0, 2, s), api.ErrLong)
		wantErr(t, "SetText", p.tree.SetText(1, s), api.ErrLong)
		wantErr(t, "Replace", p.tree.Replace(1, 3, 2, s), api.ErrArg)
	}
	if s := unlike(p.tree, p.model); s != "" {
		t.Error(s)
	}
}

func TestP11_6Copy(t *testing.T) {
	p := newPair(t, 9, 9)
	p.do(t, graft(0, 0, elem(api.TagP, leaf("ab"))), holding(spot(2, 2)), holding(spot(0, 0)), holding(spot(0, 1)), freeing(1))
	q, r := p.copied(), p.copied()
	q.do(t, replacement(2, 0, 0, "x"), holding(spot(1, 1)), holding(spot(1, 0)), freeing(0), removal(1), dropping(1), graft(0, 0, leaf("z")))
	p.do(t, freeing(2), setting(2, "cde"), placing(0, spot(2, 3)), holding(spot(2, 1)))
	for _, u := range []pair{p, q, r} {
		if s := unlike(u.tree, u.model); s != "" {
			t.Errorf("%s: %s", u.way, s)
		}
	}
	r.do(t, holding(spot(2, 1)), holding(spot(2, 0)), removal(2))
}

// thrown is one of the calls that there are, most of them with numbers that may be.
func thrown(d *dice, p pair, capacity int) call {
	ids := slices.Concat(order.All(p.tree.Tree, 0), []int{d.below(capacity), d.below(capacity)})
	id, places, s := pick(d, ids...), p.model.places(), pick(d, "", "a", "éx", "\xff\xe2\x82y", "\U0001F600")
	switch d.below(14) {
	case 0:
		return element(pick(d, api.TagP, api.TagB, api.TagBr))
	case 1:
		return text(s)
	case 2, 3:
		return insertion(id, d.below(4), d.below(capacity))
	case 4:
		return graft(id, d.below(4), pick(d, leaf(s), elem(api.TagP, leaf(s), elem(api.TagB, leaf("z")))))
	case 5:
		return removal(id)
	case 6:
		return dropping(d.below(capacity))
	case 7:
		return setting(id, s)
	case 8, 9:
		return replacement(id, d.below(4), d.below(4), s)
	case 10:
		return freeing(d.below(40))
	case 11:
		return placing(d.below(40), pick(d, places...))
	}
	return holding(pick(d, places...))
}

// rooms are those in which long rows of calls are made.
var rooms = [][2]int{{1, 0}, {4, 1}, {6, 2}, {10, 4}, {20, 6}, {40, 40}, {90, 3}}

func longRows(t *testing.T, behindEach func(t *testing.T, ahead, behind pair)) {
	for _, r := range rooms {
		t.Run(fmt.Sprint(r), func(t *testing.T) {
			t.Parallel()
			d, p := dice(r[0]), newPair(t, r[0], r[1])
			for range 3000 {
				p.way = "some calls"
				ahead := p.copied()
				p.do(t, thrown(&d, p, r[0]))
				behindEach(t, ahead, p)
				if d.below(10) == 0 {
					p = p.copied()
				}
			}
		})
	}
}

// nones are live trees that New did not make.
func nones(t *testing.T) map[string]*live.Tree {
	tree := line(t, "xy", spot(2, 1))
	byValue := *tree
	plain, err := dom.New(9, 9)
	wantErr(t, "New", err, api.OK)
	another, emptied := line(t, "xy", spot(2, 1)), line(t, "xy", spot(2, 1))
	another.Tree, emptied.Tree = plain, nil
	return map[string]*live.Tree{"empty": {}, "by value": &byValue, "around a tree of dom's": {Tree: plain}, "with another tree of dom's": another, "without dom's tree": emptied}
}

// nothing tells whether the calls that stand here answer nothing.
func nothing(t *testing.T, tree *live.Tree) {
	t.Helper()
	wantErr(t, "Insert", tree.Insert(0, 0, 2), api.ErrArg)
	wantErr(t, "Remove", tree.Remove(2), api.ErrArg)
	wantErr(t, "Drop", tree.Drop(2), api.ErrArg)
	wantErr(t, "Replace", tree.Replace(2, 0, 0, "a"), api.ErrArg)
	wantErr(t, "Replace", tree.Replace(9, -1, -1, long(8193)), api.ErrArg)
	wantErr(t, "SetText", tree.SetText(2, "a"), api.ErrArg)
	wantErr(t, "SetText", tree.SetText(9, long(8193)), api.ErrArg)
	wantErr(t, "Place", tree.Place(0, spot(0, 0)), api.ErrArg)
	wantErr(t, "Place", tree.Place(9, spot(9, 9)), api.ErrArg)
	wantErr(t, "Free", tree.Free(0), api.ErrArg)
	wantErr(t, "Free", tree.Free(9), api.ErrArg)
	if id, err := tree.Graft(0, 0, leaf("a")); id != 0 || err != api.ErrArg {
		t.Errorf("Graft = %d, %d", id, err)
	}
	if handle, err := tree.Hold(spot(0, 0)); handle != 0 || err != api.ErrArg {
		t.Errorf("Hold = %d, %d", handle, err)
	}
	if p, ok := tree.Held(0); ok || p != spot(0, 0) {
		t.Errorf("Held = %v, %t", p, ok)
	}
	if l := tree.Handles(); len(l) > 0 {
		t.Errorf("Handles = %v", l)
	}
	if c := tree.Copy(); c != nil {
		t.Errorf("Copy = %v", c)
	}
}

func TestP11_7OfNoTree(t *testing.T) { nothing(t, nil) }

func TestP11_7OfTreesThatNewDidNotMake(t *testing.T) {
	for name, tree := range nones(t) {
		t.Run(name, func(t *testing.T) {
			ahead := told(tree.Tree)
			nothing(t, tree)
			if told(tree.Tree) != ahead {
				t.Error("dom's tree has changed")
			}
		})
	}
}

func TestP11_7DomsOthersOfAnEmptyOne(t *testing.T) {
	tree := &live.Tree{}
	_, errElement := tree.Element(api.TagP)
	_, errText := tree.Text("a")
	capacity, depth := tree.Room()
	got := fmt.Sprint(errElement, errText, tree.SetAttrs(0), tree.SetTag(0, 2), tree.Has(0), tree.Tag(0), tree.Attrs(0), tree.Told(0), tree.Kids(0), tree.Parent(0), tree.Index(0), tree.Depth(0), tree.Height(0), tree.Live(0), tree.Count(), capacity, depth, tree.Plain(0))
	if want := "1 1 1 1 false -1 [][] -1 -1 -1 -1 false 0 0 0 {0 []  []}"; got != want {
		t.Errorf("got %s, want %s", got, want)
	}
}

// What was copied as a value, and asked, leaves the tree as it was.
func TestP11_7ByValueItLeavesTheTreeAlone(t *testing.T) {
	p := newPair(t, 9, 9)
	p.do(t, graft(0, 0, elem(api.TagP, leaf("xy"))), holding(spot(2, 1)), holding(spot(2, 2)), freeing(0))
	byValue := *p.tree
	nothing(t, &byValue)
	p.do(t, holding(spot(1, 1)), replacement(2, 0, 0, "ab"), freeing(1), freeing(0))
}

func TestP11_7DomsTreeComesBack(t *testing.T) {
	p := newPair(t, 9, 9)
	p.do(t, graft(0, 0, elem(api.TagP, leaf("xy"))), holding(spot(2, 1)))
	own := p.tree.Tree
	p.tree.Tree = nil
	nothing(t, p.tree)
	p.tree.Tree = own
	p.do(t, replacement(2, 0, 0, "ab"), holding(spot(0, 0)))
}

func TestP11_8EachPlaceMayBe(t *testing.T) {
	longRows(t, func(t *testing.T, ahead, behind pair) {
		for _, handle := range behind.tree.Handles() {
			if p, ok := behind.tree.Held(handle); !ok || !order.May(behind.tree.Tree, p) {
				t.Fatalf("%s: the place of %d is %v, %t", behind.way, handle, p, ok)
			}
		}
	})
}

func root(t *live.Tree, id int) int {
	for t.Parent(id) >= 0 {
		id = t.Parent(id)
	}
	return id
}

// wantOrder tells whether of any two handles what stood ahead does not stand behind now.
func wantOrder(t *testing.T, ahead, behind pair) (pairs int) {
	t.Helper()
	for _, a := range ahead.tree.Handles() {
		for _, b := range ahead.tree.Handles() {
			pa, _ := ahead.tree.Held(a)
			pb, _ := ahead.tree.Held(b)
			qa, _ := behind.tree.Held(a)
			qb, _ := behind.tree.Held(b)
			by, one := order.Cmp(ahead.tree.Tree, pa, pb)
			if by != -1 || !one || root(behind.tree, qa.Node) != root(behind.tree, qb.Node) {
				continue
			}
			pairs++
			if by, _ := order.Cmp(behind.tree.Tree, qa, qb); by == 1 {
				t.Fatalf("%s: %d at %v is behind %d at %v", behind.way, a, qa, b, qb)
			}
		}
	}
	return pairs
}

func TestP11_9WhatStoodAheadDoesNotStandBehind(t *testing.T) {
	all := slices.DeleteFunc(changes(4), func(c call) bool {
		return !strings.HasPrefix(c.name, "Insert") && !strings.HasPrefix(c.name, "Remove") && !strings.HasPrefix(c.name, "Replace")
	})
	pairs := 0
	for i, p := range small(t) {
		if i%5 != 0 && p.tree.Count() > 3 {
			continue
		}
		p.holdAll(t)
		for _, c := range all {
			q := p.copied()
			if _, err := c.tree(q.tree); err == api.OK {
				q.way += "; " + c.name
				pairs += wantOrder(t, p, q)
			}
		}
	}
	if pairs < 10000 {
		t.Errorf("%d pairs alone", pairs)
	}
}

func TestP11_9InGreaterTrees(t *testing.T) {
	n := elem(api.TagUl, elem(api.TagLi, leaf("abc"), elem(api.TagB, leaf("d")), leaf("")), elem(api.TagLi), leaf("e"))
	p := newPair(t, 30, 9)
	p.do(t, graft(0, 0, n), graft(0, 1, leaf("f")), graft(1, 1, n), element(api.TagP), text("x"))
	p.holdAll(t)
	loose := p.tree.Count() - 2
	for id := range p.tree.Count() {
		for at := range 4 {
			for _, c := range []call{insertion(id, at, loose), insertion(loose, 0, loose+1), removal(id), replacement(id, at, 2, "z"), replacement(id, at, 0, "yz"), replacement(id, at, 1, "")} {
				q := p.copied()
				if q.do(t, c) == api.OK {
					wantOrder(t, p, q)
				}
			}
		}
	}
}

func TestWhatIsHandedInIsNotKept(t *testing.T) {
	tree := line(t, "xy", spot(2, 1))
	b := []byte("a\xffb")
	wantErr(t, "Replace", tree.Replace(2, 1, 0, unsafe.String(&b[0], len(b))), api.OK)
	n := elem(api.TagP, leaf("z"))
	n.Attrs = []api.Attr{{Name: "href", Value: "v"}}
	id, err := tree.Graft(0, 0, n)
	wantErr(t, "Graft", err, api.OK)
	b[0], n.Kids[0].Text, n.Attrs[0].Value = 'c', "y", "w"
	if got, want := fmt.Sprint(tree.Told(2), tree.Plain(id)), "xa\ufffdby{2 [{href v}]  [{0 [] z []}]}"; got != want {
		t.Errorf("got %s, want %s", got, want)
	}
	wantErr(t, "SetText", tree.SetText(2, unsafe.String(&b[0], len(b))), api.OK)
	b[0] = 'd'
	if got, want := tree.Told(2), "c\ufffdb"; got != want {
		t.Errorf("got %q, want %q", got, want)
	}
}

func TestAnswersAreNewMemory(t *testing.T) {
	tree := line(t, "xy", spot(2, 1))
	wantHandle(t, "Hold", 1)(tree.Hold(spot(2, 2)))
	l, m := tree.Handles(), tree.Handles()
	l[0], l[1] = 7, 8
	if n := tree.Handles(); !slices.Equal(m, []int{0, 1}) || !slices.Equal(n, m) {
		t.Errorf("Handles are %v and %v", m, n)
	}
}

func TestExampleOfReplace(t *testing.T) {
	tree := line(t, "xy", spot(2, 1))
	wantErr(t, "Replace", tree.Replace(2, 0, 0, "ab"), api.OK)
	wantHeld(t, tree, 0, spot(2, 3))
	wantErr(t, "Replace", tree.Replace(2, 0, 9, ""), api.OK)
	wantHeld(t, tree, 0, spot(2, 0))
}

func TestExampleOfRemove(t *testing.T) {
	tree := line(t, "xy", spot(2, 1))
	wantErr(t, "Remove", tree.Remove(2), api.OK)
	wantHeld(t, tree, 0, spot(1, 0))
	wantErr(t, "Remove", tree.Remove(1), api.OK)
	wantHeld(t, tree, 0, spot(0, 0))
}
