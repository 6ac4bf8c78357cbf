package order_test

import (
	"fmt"
	"math"
	"slices"
	"strings"
	"testing"

	"quillwork/api"
	"quillwork/dom"
)

// The kinds of a model's nodes.
const (
	element = iota
	text
	gap // a number that no node has
)

// part is a node of a model: its text, or its kids' numbers.
type part struct {
	kind int
	text string
	kids []int
}

// model is a tree's nodes by their numbers; the host is the first one. What is asked of a tree is looked up in it, in rows that are written down whole.
type model []part

func (m model) copied() model {
	c := slices.Clone(m)
	for id := range c {
		c[id].kids = slices.Clone(c[id].kids)
	}
	return c
}

func (m model) has(id int) bool { return id >= 0 && id < len(m) && m[id].kind != gap }

func (m model) length(id int) int {
	if m[id].kind == text {
		return len([]rune(m[id].text))
	}
	return len(m[id].kids)
}

// order is the node, and all within.
func (m model) order(id int) []int {
	l := []int{id}
	for _, kid := range m[id].kids {
		l = append(l, m.order(kid)...)
	}
	return l
}

// roots are the host and all that are nobody's kids.
func (m model) roots() []int {
	var l []int
	for id := range m {
		isKid := func(p part) bool { return slices.Contains(p.kids, id) }
		if m.has(id) && !slices.ContainsFunc(m, isKid) {
			l = append(l, id)
		}
	}
	return l
}

// places are all places of the node, and of all within, one behind the other as they are come to on a walk.
func (m model) places(id int) []api.Place {
	l := []api.Place{{Node: id}}
	if m[id].kind == text {
		for at := range m.length(id) {
			l = append(l, api.Place{Node: id, At: at + 1})
		}
		return l
	}
	for at, kid := range m[id].kids {
		l = append(l, m.places(kid)...)
		l = append(l, api.Place{Node: id, At: at + 1})
	}
	return l
}

// facts are what a model tells of each node, and of each place.
type facts struct {
	model
	all    []int           // the nodes
	root   map[int]int     // of each node
	row    map[int][]int   // of each root: the order of its nodes
	at     map[int]int     // of each node: where it stands in that
	size   map[int]int     // of each node: how many there are, with all within
	path   map[int][]int   // of each node
	places map[int][]place // of each root: its places, as they are come to
	rank   map[place]int   // where a place stands in these
}

type place = api.Place

func (m model) facts() *facts {
	f := &facts{m, nil, map[int]int{}, map[int][]int{}, map[int]int{}, map[int]int{}, map[int][]int{}, map[int][]place{}, map[place]int{}}
	for _, root := range m.roots() {
		f.row[root], f.places[root] = m.order(root), m.places(root)
		for i, id := range f.row[root] {
			f.root[id], f.at[id] = root, i
		}
		for i, p := range f.places[root] {
			f.rank[p] = i
		}
		f.measure(root, nil)
	}
	for id := range m {
		if m.has(id) {
			f.all = append(f.all, id)
		}
	}
	return f
}

func (f *facts) measure(id int, path []int) {
	f.path[id], f.size[id] = path, 1
	for at, kid := range f.model[id].kids {
		f.measure(kid, append(slices.Clone(path), at))
		f.size[id] += f.size[kid]
	}
}

// around is the node that stands so many behind it in the order, or -1.
func (f *facts) around(id, by int) int {
	row := f.row[f.root[id]]
	if at := f.at[id] + by; at >= 0 && at < len(row) {
		return row[at]
	}
	return -1
}

func (f *facts) within(id, outer int) bool {
	return f.root[id] == f.root[outer] && f.at[id] >= f.at[outer] && f.at[id] < f.at[outer]+f.size[outer]
}

// tree is a tree of these nodes, with just these numbers.
func (m model) tree(t *testing.T) *dom.Tree {
	t.Helper()
	tree, err := dom.New(max(len(m), 1), api.MaxDepth)
	for id := 1; id < len(m) && err == api.OK; id++ {
		if m[id].kind == text {
			_, err = tree.Text(m[id].text)
		} else {
			_, err = tree.Element(api.TagDiv + id%api.TagBr)
		}
	}
	if err != api.OK {
		t.Fatalf("the model %v is no tree: %d", m, err)
	}
	m.join(t, tree)
	return tree
}

func (m model) join(t *testing.T, tree *dom.Tree) {
	t.Helper()
	for id, p := range m {
		for at, kid := range p.kids {
			if err := tree.Insert(id, at, kid); err != api.OK {
				t.Fatalf("the model %v is no tree: %d", m, err)
			}
		}
	}
	for id, p := range m {
		if p.kind != gap {
			continue
		}
		if err := tree.Drop(id); err != api.OK {
			t.Fatalf("the model %v is no tree: %d", m, err)
		}
	}
}

// told is all that a tree says of itself, in one text.
func told(t *dom.Tree) string {
	var b strings.Builder
	capacity, depth := t.Room()
	fmt.Fprint(&b, capacity, depth, t.Count())
	for id := range capacity {
		fmt.Fprint(&b, ";", t.Has(id), t.Tag(id), t.Attrs(id), t.Kids(id), t.Parent(id), t.Index(id))
		fmt.Fprintf(&b, "%q", t.Told(id))
	}
	return b.String()
}

// shapes are all models of nodes of these kinds, in which the gaps stand alone.
func shapes(kinds ...part) []model {
	first := model(slices.Concat([]part{{}}, kinds))
	all, seen := []model{first}, map[string]bool{}
	for i := 0; i < len(all); i++ {
		for _, kid := range all[i].roots() {
			for id := range all[i] {
				for at := 0; kid != 0 && at <= len(all[i][id].kids); at++ {
					m, ok := all[i].with(id, at, kid)
					if key := fmt.Sprint(m); ok && !seen[key] {
						seen[key] = true
						all = append(all, m)
					}
				}
			}
		}
	}
	return all
}

func (m model) with(id, at, kid int) (model, bool) {
	if m[id].kind != element || slices.Contains(m.order(kid), id) {
		return nil, false
	}
	c := m.copied()
	c[id].kids = slices.Insert(c[id].kids, at, kid)
	return c, true
}

// small are all trees of the host and up to three nodes of some kinds, and of four of a few.
func small() []model {
	e, x, s, no, wide := part{}, part{kind: text}, part{kind: text, text: "é\n"}, part{kind: gap}, part{kind: text, text: "a\U0001F600\ufffdz"}
	kinds := [][]part{{}, {e}, {s}, {no, x}}
	for _, a := range []part{e, x, s, no} {
		for _, b := range []part{e, wide} {
			kinds = append(kinds, []part{a, b}, []part{b, e, a})
		}
	}
	kinds = append(kinds, []part{e, s, e, x}, []part{x, e, e, e}, []part{s, e, no, wide, e})
	var l []model
	for _, k := range kinds {
		l = append(l, shapes(k...)...)
	}
	return l
}

// dice are numbers without end that look as if thrown, and are the same each time.
type dice uint64

func (d *dice) below(n int) int {
	*d = *d*6364136223846793005 + 1442695040888963407
	return int(uint64(*d)>>33) % n
}

// thrown is a tree of so many nodes; deep is how likely, of ten, a node stands in the one ahead of it, loose, of a hundred, in none.
func thrown(seed uint64, count, deep, loose int) model {
	d := dice(seed)
	numbers := make([]int, count) // numbers has them in an order unlike that of the nodes
	for i := 1; i < count; i++ {
		j := d.below(i) + 1
		numbers[i], numbers[j] = numbers[j], i
	}
	m, depth, last := make(model, count), make([]int, count), 0
	for _, id := range numbers[1:] {
		if d.below(3) == 0 {
			m[id] = part{kind: text, text: strings.Repeat("añ", d.below(4))}
		}
		if d.below(100) < loose {
			continue
		}
		up := last
		if d.below(10) >= deep {
			up = numbers[d.below(slices.Index(numbers, id))]
		}
		if m[up].kind == text || depth[up] == api.MaxDepth {
			up = 0
		}
		m[up].kids = slices.Insert(m[up].kids, d.below(len(m[up].kids)+1), id)
		depth[id], last = depth[up]+1, id
	}
	return m
}

// chain is a tree as deep as one may be, with a text at its end; its host has a text ahead and one behind.
func chain() model {
	m := model{{kids: []int{41, 1, 42}}}
	for id := 2; id <= api.MaxDepth; id++ {
		m = append(m, part{kids: []int{id}})
	}
	leaf := part{kind: text, text: "xyz"}
	return append(m, leaf, leaf, leaf)
}

// row is a host with as many texts as there may be.
func row() model {
	m := model{{}}
	for id := 1; id < api.MaxNodes; id++ {
		m[0].kids = append(m[0].kids, id)
		m = append(m, part{kind: text, text: "x"})
	}
	slices.Reverse(m[0].kids)
	return m
}

// great are some trees with many nodes.
func great() []model {
	return []model{chain(), row(), thrown(1, 60, 0, 5), thrown(2, 60, 9, 10), thrown(3, 300, 6, 3), thrown(4, 300, 10, 30), thrown(5, api.MaxNodes, 7, 1), thrown(6, api.MaxNodes, 2, 0)}
}

// far are numbers far from those of nodes.
var far = []int{math.MinInt, math.MinInt + 1, -1 << 32, -1 << 31, -2001, 2000, 2001, 1 << 31, 1 << 32, math.MaxInt - 1, math.MaxInt}

// numbers are all from the first one to the last one.
func numbers(first, last int) []int {
	var l []int
	for n := first; n <= last; n++ {
		l = append(l, n)
	}
	return l
}
