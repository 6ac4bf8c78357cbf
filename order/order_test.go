package order_test

import (
	"cmp"
	"fmt"
	"math"
	"slices"
	"strings"
	"testing"
	"unicode/utf8"

	"quillwork/api"
	"quillwork/dom"
	"quillwork/order"
)

// want tells whether two answers are alike.
func want[T any](t *testing.T, of, at any, got, want T) {
	t.Helper()
	if fmt.Sprint(got) != fmt.Sprint(want) {
		t.Fatalf("%v: %v: got %v, want %v", of, at, got, want)
	}
}

// wantOK tells it of calls with two answers.
func wantOK[T any](t *testing.T, of, at any) func(got T, ok bool) func(want T, wantOK bool) {
	return func(got T, ok bool) func(want T, wantOK bool) {
		return func(want T, wantOK bool) {
			t.Helper()
			if fmt.Sprint(got) != fmt.Sprint(want) || ok != wantOK {
				t.Fatalf("%v: %v: got %v, %t, want %v, %t", of, at, got, ok, want, wantOK)
			}
		}
	}
}

func wantNumber(t *testing.T, of, at any, got, want int) {
	t.Helper()
	if got != want {
		t.Fatalf("%v: %v: got %d, want %d", of, at, got, want)
	}
}

func wantRow(t *testing.T, of, at any, got, want []int) {
	t.Helper()
	if !slices.Equal(got, want) {
		t.Fatalf("%v: %v: got %v, want %v", of, at, got, want)
	}
}

// each hands on all the trees, the great ones too; no call may change one.
func each(t *testing.T, ask func(t *testing.T, tree *dom.Tree, f *facts)) {
	t.Helper()
	for _, l := range [][]model{small(), great()} {
		for _, m := range l {
			tree := m.tree(t)
			ahead := told(tree)
			ask(t, tree, m.facts())
			if told(tree) != ahead {
				t.Fatalf("%v was changed", m)
			}
		}
	}
}

// others are numbers of no node: far ones, those around the nodes', and gaps among these.
func (f *facts) others() []int {
	l := slices.Concat(far, []int{-2, -1, len(f.model), len(f.model) + 1})
	l = slices.DeleteFunc(l, f.has)
	for id := range f.model {
		if !f.has(id) {
			l = append(l, id)
		}
	}
	return l
}

func TestTheTestsTreesAreMany(t *testing.T) {
	gaps, loose, empty := 0, 0, 0
	l := small()
	for _, m := range l {
		f := m.facts()
		if len(f.all) < len(m) {
			gaps++
		}
		if len(f.row) > 1 {
			loose++
		}
		if slices.ContainsFunc(m, func(p part) bool { return p.kind == text && p.text == "" }) {
			empty++
		}
	}
	if len(l) < 1000 || gaps < 100 || loose < 100 || empty < 100 {
		t.Errorf("%d trees alone: %d with gaps, %d with loose nodes, %d with empty texts", len(l), gaps, loose, empty)
	}
}

func TestP9_1Next(t *testing.T) {
	each(t, func(t *testing.T, tree *dom.Tree, f *facts) {
		for _, id := range f.all {
			wantNumber(t, f.model, id, order.Next(tree, id), f.around(id, 1))
		}
		for _, id := range f.others() {
			wantNumber(t, f.model, id, order.Next(tree, id), -1)
		}
	})
}

func TestP9_1Prev(t *testing.T) {
	each(t, func(t *testing.T, tree *dom.Tree, f *facts) {
		for _, id := range f.all {
			wantNumber(t, f.model, id, order.Prev(tree, id), f.around(id, -1))
		}
		for _, id := range f.others() {
			wantNumber(t, f.model, id, order.Prev(tree, id), -1)
		}
	})
}

func TestP9_1Behind(t *testing.T) {
	each(t, func(t *testing.T, tree *dom.Tree, f *facts) {
		for _, id := range f.all {
			wantNumber(t, f.model, id, order.Behind(tree, id), f.around(id, f.size[id]))
		}
		for _, id := range f.others() {
			wantNumber(t, f.model, id, order.Behind(tree, id), -1)
		}
	})
}

func TestP9_2All(t *testing.T) {
	each(t, func(t *testing.T, tree *dom.Tree, f *facts) {
		for _, id := range f.all {
			from := f.at[id]
			wantRow(t, f.model, id, order.All(tree, id), f.row[f.root[id]][from:from+f.size[id]])
		}
		for _, id := range f.others() {
			wantRow(t, f.model, id, order.All(tree, id), nil)
		}
	})
}

func TestP9_3Length(t *testing.T) {
	each(t, func(t *testing.T, tree *dom.Tree, f *facts) {
		for _, id := range f.all {
			wantNumber(t, f.model, id, order.Length(tree, id), f.length(id))
		}
		for _, id := range f.others() {
			wantNumber(t, f.model, id, order.Length(tree, id), -1)
		}
	})
}

// oneText is a tree of a text, the node 1.
func oneText(t *testing.T, s string) *dom.Tree {
	t.Helper()
	return model{{kids: []int{1}}, {kind: text, text: s}}.tree(t)
}

func TestP9_3LengthOfEachCharacter(t *testing.T) {
	tree := oneText(t, "")
	for r := rune(0); r <= utf8.MaxRune; r++ {
		if err := tree.SetText(1, "a"+string(r)+"b"); err != api.OK {
			t.Fatal(err)
		}
		if got := order.Length(tree, 1); got != 3 {
			t.Fatalf("Length of a text of a, %U, b = %d", r, got)
		}
	}
}

func TestP9_3LengthOfBytes(t *testing.T) {
	tree := oneText(t, "")
	for first := range 256 {
		for second := range 256 {
			s := string([]byte{byte(first), byte(second)})
			tree.SetText(1, s)
			wantNumber(t, "Length", s, order.Length(tree, 1), utf8.RuneCountInString(s))
		}
	}
}

func TestP9_3LengthOfLongTexts(t *testing.T) {
	for s, count := range map[string]int{strings.Repeat("x", 8192): 8192, strings.Repeat("é", 4096): 4096, strings.Repeat("\U0001F600", 2048): 2048, strings.Repeat("\xff", 2730): 2730, strings.Repeat("e\u0301", 2730): 5460} {
		wantNumber(t, "Length", s[:4], order.Length(oneText(t, s), 1), count)
	}
}

func TestP9_3LengthOfEachElement(t *testing.T) {
	for tag := api.TagDiv; tag <= api.TagBr; tag++ {
		for count := range 4 {
			n := api.Node{Tag: tag, Attrs: []api.Attr{{Name: "a", Value: "bcdef"}}, Kids: make([]api.Node, count)}
			tree, _ := dom.New(9, 9)
			id, err := tree.Graft(0, 0, n)
			if err != api.OK {
				t.Fatal(err)
			}
			wantNumber(t, "Length", tag, order.Length(tree, id), count)
		}
	}
}

// ats are numbers around those that may be in the node, and such as are far.
func (f *facts) ats(id int) []int {
	l := slices.Concat(far, numbers(-2, 2))
	if f.has(id) {
		l = append(l, numbers(f.length(id)-1, f.length(id)+2)...)
	}
	return l
}

func TestP9_3May(t *testing.T) {
	each(t, func(t *testing.T, tree *dom.Tree, f *facts) {
		for _, id := range f.all {
			for _, at := range f.ats(id) {
				want(t, f.model, place{Node: id, At: at}, order.May(tree, place{Node: id, At: at}), at >= 0 && at <= f.length(id))
			}
		}
		for _, id := range f.others() {
			for _, at := range f.ats(id) {
				want(t, f.model, place{Node: id, At: at}, order.May(tree, place{Node: id, At: at}), false)
			}
		}
	})
}

// nearest is the place of the node whose At is next to that one, of all that may be.
func (f *facts) nearest(p place) place {
	if p.At > f.length(p.Node) {
		return place{Node: p.Node, At: f.length(p.Node)}
	}
	if p.At < 0 {
		return place{Node: p.Node}
	}
	return p
}

func TestP9_3Clamp(t *testing.T) {
	each(t, func(t *testing.T, tree *dom.Tree, f *facts) {
		for _, id := range f.all {
			for _, at := range f.ats(id) {
				p := place{Node: id, At: at}
				want(t, f.model, p, order.Clamp(tree, p), f.nearest(p))
			}
		}
		for _, id := range f.others() {
			for _, at := range f.ats(id) {
				want(t, f.model, place{Node: id, At: at}, order.Clamp(tree, place{Node: id, At: at}), place{})
			}
		}
	})
}

// some are places that may be: all of them, or the first ones, the last ones, and others between.
func (f *facts) some() []place {
	var all, l []place
	for root := range f.model {
		all = append(all, f.places[root]...)
	}
	for i, p := range all {
		if len(all) < 100 || i < 30 || i >= len(all)-30 || i%(len(all)/50) == 0 {
			l = append(l, p)
		}
	}
	return l
}

// wrong are places that may not be.
func (f *facts) wrong() []place {
	var l []place
	for _, id := range f.others() {
		l = append(l, place{Node: id}, place{Node: id, At: -1}, place{Node: id, At: 1})
	}
	for _, id := range f.all[:min(len(f.all), 9)] {
		end := f.length(id)
		l = append(l, place{Node: id, At: -1}, place{Node: id, At: end + 1}, place{Node: id, At: math.MinInt}, place{Node: id, At: math.MaxInt})
	}
	return l
}

// wantCmp is quicker than wantOK, as there are many of these.
func wantCmp(t *testing.T, tree *dom.Tree, f *facts, a, b place, want int, wantOK bool) {
	t.Helper()
	if got, ok := order.Cmp(tree, a, b); got != want || ok != wantOK {
		t.Fatalf("%v: Cmp(%v, %v) = %d, %t, want %d, %t", f.model, a, b, got, ok, want, wantOK)
	}
}

func TestP9_4Cmp(t *testing.T) {
	each(t, func(t *testing.T, tree *dom.Tree, f *facts) {
		for _, a := range f.some() {
			for _, b := range f.some() {
				if f.root[a.Node] != f.root[b.Node] {
					wantCmp(t, tree, f, a, b, 0, false)
					continue
				}
				wantCmp(t, tree, f, a, b, cmp.Compare(f.rank[a], f.rank[b]), true)
			}
		}
	})
}

// byWords is the order of two places as the chapter's words have it.
func (f *facts) byWords(a, b place) int {
	switch {
	case a.Node == b.Node:
		return cmp.Compare(a.At, b.At)
	case f.within(a.Node, b.Node):
		return -f.byWords(b, a)
	case f.within(b.Node, a.Node):
		if a.At <= f.path[b.Node][len(f.path[a.Node])] {
			return -1
		}
		return 1
	}
	return cmp.Compare(f.at[a.Node], f.at[b.Node])
}

func TestP9_4CmpByTheWords(t *testing.T) {
	each(t, func(t *testing.T, tree *dom.Tree, f *facts) {
		for _, a := range f.some() {
			for _, b := range f.some() {
				if f.root[a.Node] == f.root[b.Node] {
					wantCmp(t, tree, f, a, b, f.byWords(a, b), true)
				}
			}
		}
	})
}

func TestP9_4CmpOfPlacesThatMayNotBe(t *testing.T) {
	each(t, func(t *testing.T, tree *dom.Tree, f *facts) {
		good, wrong := f.some(), f.wrong()
		for _, a := range wrong {
			for _, b := range slices.Concat(good[:min(len(good), 9)], wrong[:9], wrong[len(wrong)-9:]) {
				wantCmp(t, tree, f, a, b, 0, false)
				wantCmp(t, tree, f, b, a, 0, false)
			}
		}
	})
}

func TestP9_5Within(t *testing.T) {
	each(t, func(t *testing.T, tree *dom.Tree, f *facts) {
		step := 1 + len(f.all)/100
		for i := 0; i < len(f.all); i += step {
			id := f.all[i]
			for j := 0; j < len(f.all); j += step {
				outer := f.all[j]
				want(t, f.model, [2]int{id, outer}, order.Within(tree, id, outer), f.within(id, outer))
			}
			want(t, f.model, id, order.Within(tree, id, id), true)
			want(t, f.model, id, order.Within(tree, id, f.root[id]), true)
		}
	})
}

func TestP9_5WithinOfWhatIsNoNode(t *testing.T) {
	each(t, func(t *testing.T, tree *dom.Tree, f *facts) {
		some := f.all[:min(len(f.all), 9)]
		for _, id := range f.others() {
			for _, other := range slices.Concat(some, f.others()) {
				want(t, f.model, [2]int{id, other}, order.Within(tree, id, other), false)
				want(t, f.model, [2]int{other, id}, order.Within(tree, other, id), false)
			}
		}
	})
}

func TestP9_6Path(t *testing.T) {
	each(t, func(t *testing.T, tree *dom.Tree, f *facts) {
		for _, id := range f.all {
			wantRow(t, f.model, id, order.Path(tree, id), f.path[id])
		}
		for _, id := range f.others() {
			wantRow(t, f.model, id, order.Path(tree, id), nil)
		}
	})
}

func wantFind(t *testing.T, tree *dom.Tree, f *facts, root int, path []int, want int, wantOK bool) {
	t.Helper()
	if got, ok := order.Find(tree, root, path); got != want || ok != wantOK {
		t.Fatalf("%v: Find(%d, %v) = %d, %t, want %d, %t", f.model, root, path[:min(len(path), 50)], got, ok, want, wantOK)
	}
}

// find is where the path leads.
func (f *facts) find(id int, path []int) (int, bool) {
	if len(path) == 0 {
		return id, true
	}
	if kids := f.model[id].kids; path[0] >= 0 && path[0] < len(kids) {
		return f.find(kids[path[0]], path[1:])
	}
	return 0, false
}

// paths are all of at most three of these numbers.
func paths(of []int) [][]int {
	l := [][]int{nil}
	for from, most := 0, 3; most > 0; most-- {
		to := len(l)
		for _, path := range l[from:to] {
			for _, at := range of {
				l = append(l, append(slices.Clone(path), at))
			}
		}
		from = to
	}
	return l
}

func TestP9_6Find(t *testing.T) {
	all := slices.Concat(paths([]int{-1, 0, 1, 2}), [][]int{{3}, {math.MinInt}, {math.MaxInt}, {0, math.MaxInt}, {0, math.MinInt}, {1 << 32}, {0, 0, 0, 0}, {0, 0, 0, 0, 0}})
	each(t, func(t *testing.T, tree *dom.Tree, f *facts) {
		for _, root := range f.all[:min(len(f.all), 60)] {
			for _, path := range all {
				id, ok := f.find(root, path)
				wantFind(t, tree, f, root, path, id, ok)
			}
		}
		for _, root := range f.others() {
			wantFind(t, tree, f, root, nil, 0, false)
			wantFind(t, tree, f, root, []int{0}, 0, false)
			wantFind(t, tree, f, root, []int{-1}, 0, false)
		}
	})
}

func TestP9_6FindFromEachOneAround(t *testing.T) {
	each(t, func(t *testing.T, tree *dom.Tree, f *facts) {
		for i := 0; i < len(f.all); i += 1 + len(f.all)/200 {
			id := f.all[i]
			for outer := range f.path[id] {
				from, ok := f.find(f.root[id], f.path[id][:outer])
				if !ok {
					t.Fatal("the model is wrong")
				}
				wantFind(t, tree, f, from, f.path[id][outer:], id, true)
				wantFind(t, tree, f, from, append(slices.Clone(f.path[id][outer:]), f.length(id)), 0, false)
			}
		}
	})
}

func TestP9_6FindOfLongPaths(t *testing.T) {
	for _, m := range great() {
		tree, f := m.tree(t), m.facts()
		long := make([]int, 1<<20)
		wantFind(t, tree, f, 0, long, 0, false)
		long[0] = 1
		wantFind(t, tree, f, 0, long, 0, false)
	}
}

// wantPoint wants none of a place that may not be, or whose root is not the host.
func wantPoint(t *testing.T, tree *dom.Tree, f *facts, p place) {
	t.Helper()
	_, may := f.rank[p]
	may = may && f.root[p.Node] == 0
	wanted := api.Point{}
	if may {
		wanted = api.Point{Path: f.path[p.Node], At: p.At}
	}
	got, ok := order.Point(tree, p)
	if ok != may || got.At != wanted.At || !slices.Equal(got.Path, wanted.Path) {
		t.Fatalf("%v: Point(%v) = %v, %t, want %v, %t", f.model, p, got, ok, wanted, may)
	}
}

func TestP9_7Point(t *testing.T) {
	each(t, func(t *testing.T, tree *dom.Tree, f *facts) {
		for _, id := range f.all {
			for _, at := range f.ats(id) {
				wantPoint(t, tree, f, place{Node: id, At: at})
			}
		}
		for _, p := range f.wrong() {
			wantPoint(t, tree, f, p)
		}
	})
}

func wantAt(t *testing.T, tree *dom.Tree, f *facts, p api.Point) {
	t.Helper()
	id, ok := f.find(0, p.Path)
	wanted := place{Node: id, At: p.At}
	if _, may := f.rank[wanted]; !ok || !may {
		wanted, ok = place{}, false
	}
	if got, is := order.At(tree, p); got != wanted || is != ok {
		t.Fatalf("%v: At(%v) = %v, %t, want %v, %t", f.model, p, got, is, wanted, ok)
	}
}

func TestP9_7At(t *testing.T) {
	all := slices.Concat(paths([]int{-1, 0, 1, 2}), [][]int{{3}, {math.MinInt}, {math.MaxInt}, {0, 0, 0, 0}})
	each(t, func(t *testing.T, tree *dom.Tree, f *facts) {
		for _, path := range all {
			id, _ := f.find(0, path)
			ats := f.ats(id)
			if len(f.all) > 9 {
				ats = []int{-1, 0, f.length(id), f.length(id) + 1}
			}
			for _, at := range ats {
				wantAt(t, tree, f, api.Point{Path: path, At: at})
			}
		}
	})
}

func TestP9_7AtOfLongPaths(t *testing.T) {
	for _, m := range great() {
		wantAt(t, m.tree(t), m.facts(), api.Point{Path: make([]int, 1<<20)})
	}
}

// nones are trees that New did not make.
func nones(t *testing.T) map[string]*dom.Tree {
	t.Helper()
	byHand := *chain().tree(t)
	return map[string]*dom.Tree{"nil": nil, "empty": {}, "copied by hand": &byHand}
}

func TestP9_8OfNoTree(t *testing.T) {
	for name, tree := range nones(t) {
		for _, id := range slices.Concat(far, numbers(-2, 43)) {
			wantNumber(t, name+": Next", id, order.Next(tree, id), -1)
			wantNumber(t, name+": Prev", id, order.Prev(tree, id), -1)
			wantNumber(t, name+": Behind", id, order.Behind(tree, id), -1)
			wantRow(t, name+": All", id, order.All(tree, id), nil)
			wantNumber(t, name+": Length", id, order.Length(tree, id), -1)
			wantRow(t, name+": Path", id, order.Path(tree, id), nil)
			want(t, name+": Within", id, order.Within(tree, id, id), false)
			want(t, name+": Within 0", id, order.Within(tree, id, 0), false)
			for _, path := range [][]int{nil, {0}, {1, 0}, {-1}} {
				wantOK[int](t, name+": Find", id)(order.Find(tree, id, path))(0, false)
				wantOK[place](t, name+": At", path)(order.At(tree, api.Point{Path: path, At: id}))(place{}, false)
			}
		}
	}
}

func TestP9_8PlacesOfNoTree(t *testing.T) {
	for name, tree := range nones(t) {
		for _, id := range slices.Concat(far, numbers(-2, 43)) {
			for _, at := range slices.Concat(far, numbers(-2, 3)) {
				p := place{Node: id, At: at}
				want(t, name+": May", p, order.May(tree, p), false)
				want(t, name+": Clamp", p, order.Clamp(tree, p), place{})
				wantOK[int](t, name+": Cmp", p)(order.Cmp(tree, p, p))(0, false)
				wantOK[int](t, name+": Cmp", p)(order.Cmp(tree, p, place{}))(0, false)
				wantOK[api.Point](t, name+": Point", p)(order.Point(tree, p))(api.Point{}, false)
			}
		}
	}
}

func TestP9_9EachWayTurnedRound(t *testing.T) {
	each(t, func(t *testing.T, tree *dom.Tree, f *facts) {
		all := f.some()
		for _, a := range all {
			for _, b := range all {
				one, ok := order.Cmp(tree, a, b)
				other, okToo := order.Cmp(tree, b, a)
				if one != -other || ok != okToo || ok && (one == 0) != (a == b) {
					t.Fatalf("%v: Cmp of %v and %v is %d, %t, turned round %d, %t", f.model, a, b, one, ok, other, okToo)
				}
			}
		}
	})
}

func TestP9_9WhatIsAheadOfWhatIsAheadIsAhead(t *testing.T) {
	for _, m := range slices.Concat(shapes(part{}, part{kind: text, text: "ab"}, part{}), shapes(part{}, part{}, part{}, part{})) {
		tree, f := m.tree(t), m.facts()
		ahead := map[[2]place]bool{}
		for _, a := range f.some() {
			for _, b := range f.some() {
				by, _ := order.Cmp(tree, a, b)
				ahead[[2]place{a, b}] = by < 0
			}
		}
		for _, a := range f.some() {
			for _, b := range f.some() {
				for _, c := range f.some() {
					if ahead[[2]place{a, b}] && ahead[[2]place{b, c}] && !ahead[[2]place{a, c}] {
						t.Fatalf("%v: %v, %v, %v", m, a, b, c)
					}
				}
			}
		}
	}
}

func TestP9_10NextComesToAll(t *testing.T) {
	each(t, func(t *testing.T, tree *dom.Tree, f *facts) {
		for i := 0; i < len(f.all); i += 1 + len(f.all)/20 {
			id := f.all[i]
			var forth []int
			for n, end := id, order.Behind(tree, id); n != end && len(forth) < len(f.all); n = order.Next(tree, n) {
				forth = append(forth, n)
			}
			all := order.All(tree, id)
			wantRow(t, f.model, id, forth, all)
			for at := len(all) - 1; at > 0; at-- {
				wantNumber(t, f.model, all[at], order.Prev(tree, all[at]), all[at-1])
			}
		}
	})
}

func TestP9_11FindOfPath(t *testing.T) {
	each(t, func(t *testing.T, tree *dom.Tree, f *facts) {
		for _, id := range f.all {
			wantFind(t, tree, f, f.root[id], order.Path(tree, id), id, true)
		}
	})
}

func TestP9_11AtOfPoint(t *testing.T) {
	each(t, func(t *testing.T, tree *dom.Tree, f *facts) {
		for _, p := range f.places[0] {
			point, ok := order.Point(tree, p)
			if back, is := order.At(tree, point); !ok || !is || back != p {
				t.Fatalf("%v: %v is the point %v, %t, and that is %v, %t", f.model, p, point, ok, back, is)
			}
		}
	})
}

// TestChangedTrees asks of a tree what it is now, not what it was.
func TestChangedTrees(t *testing.T) {
	tree := exampleTree(t)
	ask := func(next, behind, length int, all, path []int) {
		t.Helper()
		wantNumber(t, "Next", 1, order.Next(tree, 1), next)
		wantNumber(t, "Behind", 2, order.Behind(tree, 2), behind)
		wantNumber(t, "Length", 3, order.Length(tree, 3), length)
		wantRow(t, "All", 0, order.All(tree, 0), all)
		wantRow(t, "Path", 3, order.Path(tree, 3), path)
	}
	ask(2, 4, 2, []int{0, 1, 2, 3, 4}, []int{0, 0, 0})
	tree.SetText(3, "éàü")
	ask(2, 4, 3, []int{0, 1, 2, 3, 4}, []int{0, 0, 0})
	tree.Remove(2)
	ask(4, -1, 3, []int{0, 1, 4}, []int{0})
	tree.Insert(4, 0, 2)
	ask(4, -1, 3, []int{0, 1, 4, 2, 3}, []int{1, 0, 0})
	tree.Remove(2)
	tree.Drop(2)
	ask(4, -1, -1, []int{0, 1, 4}, nil)
}

func TestWhatIsHandedInStays(t *testing.T) {
	tree := exampleTree(t)
	for _, length := range []int{0, 1, 2, 3} {
		room := []int{0, 0, 0, 7, 8}
		order.Find(tree, 0, room[:length])
		order.At(tree, api.Point{Path: room[:length]})
		order.Find(tree, 1, room)
		wantRow(t, "the path that was handed in", length, room, []int{0, 0, 0, 7, 8})
	}
}

// scratch writes over a list, and over the room behind its end.
func scratch(l []int) {
	l = l[:cap(l)]
	for i := range l {
		l[i] = -9
	}
}

func TestAnswersAreNewMemory(t *testing.T) {
	tree := exampleTree(t)
	ahead := told(tree)
	all, path := order.All(tree, 0), order.Path(tree, 3)
	point, _ := order.Point(tree, place{Node: 3, At: 1})
	for _, l := range [][]int{order.All(tree, 0), order.Path(tree, 3), order.All(tree, 3), order.Path(tree, 0)} {
		scratch(l)
	}
	again, _ := order.Point(tree, place{Node: 3, At: 1})
	scratch(again.Path)
	wantRow(t, "All", 0, all, []int{0, 1, 2, 3, 4})
	wantRow(t, "Path", 3, path, []int{0, 0, 0})
	want(t, "Point", 3, point, api.Point{Path: []int{0, 0, 0}, At: 1})
	wantRow(t, "All again", 0, order.All(tree, 0), []int{0, 1, 2, 3, 4})
	wantRow(t, "Path again", 3, order.Path(tree, 3), []int{0, 0, 0})
	if told(tree) != ahead {
		t.Errorf("the tree was changed")
	}
}

// exampleTree is the chapter's: host(p(a "xy"), p()).
func exampleTree(t *testing.T) *dom.Tree {
	t.Helper()
	tree, err := dom.New(9, 9)
	if err != api.OK {
		t.Fatal(err)
	}
	first := api.Node{Tag: api.TagP, Kids: []api.Node{{Tag: api.TagA, Kids: []api.Node{{Text: "xy"}}}}}
	for at, n := range []api.Node{first, {Tag: api.TagP}} {
		if _, err := tree.Graft(0, at, n); err != api.OK {
			t.Fatal(err)
		}
	}
	return tree
}

func TestExamplesOfTheOrderOfNodes(t *testing.T) {
	tree := exampleTree(t)
	wantNumber(t, "Next", 3, order.Next(tree, 3), 4)
	wantNumber(t, "Prev", 4, order.Prev(tree, 4), 3)
	wantNumber(t, "Behind", 1, order.Behind(tree, 1), 4)
	wantNumber(t, "Next", 4, order.Next(tree, 4), -1)
}

func TestExamplesOfCmp(t *testing.T) {
	tree := exampleTree(t)
	wantOK[int](t, "Cmp", "3 1, 1 1")(order.Cmp(tree, place{Node: 3, At: 1}, place{Node: 1, At: 1}))(-1, true)
	wantOK[int](t, "Cmp", "0 1, 3 2")(order.Cmp(tree, place{Node: 0, At: 1}, place{Node: 3, At: 2}))(1, true)
	wantOK[int](t, "Cmp", "0 0, 3 0")(order.Cmp(tree, place{Node: 0, At: 0}, place{Node: 3, At: 0}))(-1, true)
}

func TestExamplesOfPaths(t *testing.T) {
	tree := exampleTree(t)
	wantRow(t, "Path", 3, order.Path(tree, 3), []int{0, 0, 0})
	wantOK[int](t, "Find", "0 0 0")(order.Find(tree, 0, []int{0, 0, 0}))(3, true)
	wantOK[api.Point](t, "Point", "4 0")(order.Point(tree, place{Node: 4}))(api.Point{Path: []int{1}}, true)
}
