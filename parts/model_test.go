package parts_test

import (
	"fmt"
	"maps"
	"math"
	"slices"
	"strings"
	"testing"

	"quillwork/api"
	"quillwork/live"
	"quillwork/parts"
)

type place = api.Place

func spot(node, at int) place { return place{Node: node, At: at} }

// model is a tree in which each node has a row: its characters, or its kids, with a mark for each handle where its place is. The calls cut the rows and put them together, and so carry the marks along.
type model struct {
	capacity, depth int
	nodes           map[int]*node
}

type node struct {
	tag    int
	attrs  []api.Attr
	parent int
	row    []int
}

// mark is no kid's number, and no character.
func mark(handle int) int { return -1 - handle }

func isMark(item int) bool { return item < 0 }

// modelOf tells what stands in a live tree now.
func modelOf(t *live.Tree) *model {
	m := &model{nodes: map[int]*node{}}
	m.capacity, m.depth = t.Room()
	for id := range m.capacity {
		if t.Has(id) {
			m.nodes[id] = &node{t.Tag(id), t.Attrs(id), t.Parent(id), slices.Concat(characters(t.Told(id)), t.Kids(id))}
		}
	}
	for _, handle := range t.Handles() {
		p, _ := t.Held(handle)
		row := m.nodes[p.Node].row
		m.nodes[p.Node].row = slices.Insert(row, behind(row, p.At), mark(handle))
	}
	return m
}

func characters(s string) []int {
	var l []int
	for _, r := range s {
		l = append(l, int(r))
	}
	return l
}

func said(characters []int) string {
	var b strings.Builder
	for _, r := range characters {
		b.WriteRune(rune(r))
	}
	return b.String()
}

// items are those of the row that are no marks.
func items(row []int) []int { return slices.DeleteFunc(slices.Clone(row), isMark) }

// ahead is where the gap ahead of a row's at-th item begins, behind is where it ends; the marks in it are between.
func ahead(row []int, at int) int {
	i := 0
	for ; at > 0; i++ {
		if !isMark(row[i]) {
			at--
		}
	}
	return i
}

func behind(row []int, at int) int {
	i := ahead(row, at)
	for i < len(row) && isMark(row[i]) {
		i++
	}
	return i
}

func (m *model) String() string {
	var b strings.Builder
	held := map[int]place{}
	fmt.Fprint(&b, m.capacity, " ", m.depth)
	for _, id := range slices.Sorted(maps.Keys(m.nodes)) {
		n := m.nodes[id]
		fmt.Fprintf(&b, "; %d: %d %v in %d", id, n.tag, n.attrs, n.parent)
		if n.tag == api.TagText {
			fmt.Fprintf(&b, " %q", short(said(items(n.row))))
		} else {
			fmt.Fprint(&b, " ", items(n.row))
		}
		for i, item := range n.row {
			if isMark(item) {
				held[mark(item)] = spot(id, len(items(n.row[:i])))
			}
		}
	}
	return b.String() + fmt.Sprint(" held ", held)
}

// short is a text, but of a long one its length and what stands around its middle and at its ends.
func short(s string) string {
	if len(s) < 40 {
		return s
	}
	return fmt.Sprint(len(s), s[:9], s[len(s)/2-4:len(s)/2+4], s[len(s)-9:])
}

func (m *model) length(id int) int { return len(items(m.nodes[id].row)) }

func (m *model) isText(id int) bool { return m.nodes[id].tag == api.TagText }

func (m *model) has(ids ...int) bool {
	for _, id := range ids {
		if m.nodes[id] == nil {
			return false
		}
	}
	return true
}

func (m *model) kids(id int) []int {
	if m.isText(id) {
		return nil
	}
	return items(m.nodes[id].row)
}

func (m *model) depthOf(id int) int {
	if m.nodes[id].parent < 0 {
		return 0
	}
	return m.depthOf(m.nodes[id].parent) + 1
}

func (m *model) heightOf(id int) int {
	height := 0
	for _, kid := range m.kids(id) {
		height = max(height, m.heightOf(kid)+1)
	}
	return height
}

// within is the node, and all within, in order.
func (m *model) within(id int) []int {
	l := []int{id}
	for _, kid := range m.kids(id) {
		l = append(l, m.within(kid)...)
	}
	return l
}

func (m *model) full() bool { return len(m.nodes) == m.capacity }

// add has a new node with this row, whose kids it takes.
func (m *model) add(tag int, attrs []api.Attr, parent int, row []int) int {
	id := 0
	for m.nodes[id] != nil {
		id++
	}
	m.nodes[id] = &node{tag, attrs, parent, slices.Clone(row)}
	m.adopt(id)
	return id
}

func (m *model) adopt(id int) {
	for _, kid := range m.kids(id) {
		m.nodes[kid].parent = id
	}
}

// replace has other items in the place of some of a node's row.
func (m *model) replace(id, from, to int, row ...int) {
	n := m.nodes[id]
	n.row = slices.Concat(n.row[:from], row, n.row[to:])
	m.adopt(id)
}

// splice has the row of a node in the place of the node.
func (m *model) splice(id int) {
	n := m.nodes[id]
	i := slices.Index(m.nodes[n.parent].row, id)
	m.replace(n.parent, i, i+1, n.row...)
	delete(m.nodes, id)
}

// cut leaves the node what stands ahead of its at-th item, and just there; the rest is a new one's.
func (m *model) cut(id, at int) int {
	n := m.nodes[id]
	i := behind(n.row, at)
	fresh := m.add(n.tag, n.attrs, n.parent, n.row[i:])
	n.row = n.row[:i]
	if n.parent >= 0 {
		i := slices.Index(m.nodes[n.parent].row, id)
		m.replace(n.parent, i+1, i+1, fresh)
	}
	return fresh
}

func (m *model) splitText(id, at int) (int, api.Errno) {
	switch {
	case !m.has(id):
		return 0, api.ErrNone
	case !m.isText(id):
		return 0, api.ErrKind
	case at < 0 || at > m.length(id):
		return 0, api.ErrArg
	case m.full():
		return 0, api.ErrFull
	}
	return m.cut(id, at), api.OK
}

func (m *model) split(id, at int) (int, api.Errno) {
	switch {
	case !m.has(id):
		return 0, api.ErrNone
	case m.isText(id):
		return 0, api.ErrKind
	case m.nodes[id].parent < 0 || at < 0 || at > m.length(id):
		return 0, api.ErrArg
	case m.full():
		return 0, api.ErrFull
	}
	return m.cut(id, at), api.OK
}

func (m *model) wrap(parent, at, n, tag int, attrs []api.Attr) (int, api.Errno) {
	switch {
	case !m.has(parent):
		return 0, api.ErrNone
	case m.isText(parent):
		return 0, api.ErrKind
	case at < 0 || n < 0 || at > m.length(parent) || n > m.length(parent) || at+n > m.length(parent) || tag < 1 || tag > 16:
		return 0, api.ErrArg
	}
	depth := m.depthOf(parent) + 1
	for _, kid := range m.kids(parent)[at : at+n] {
		depth = max(depth, m.depthOf(kid)+m.heightOf(kid)+1)
	}
	switch {
	case depth > m.depth:
		return 0, api.ErrDeep
	case m.full():
		return 0, api.ErrFull
	}
	row := m.nodes[parent].row
	from, to := ahead(row, at), ahead(row, at)
	if n > 0 {
		from, to = behind(row, at), ahead(row, at+n)
	}
	fresh := m.add(tag, attrs, parent, row[from:to])
	m.replace(parent, from, to, fresh)
	return fresh, api.OK
}

func (m *model) unwrap(id int) api.Errno {
	switch {
	case !m.has(id):
		return api.ErrNone
	case m.isText(id):
		return api.ErrKind
	case m.nodes[id].parent < 0:
		return api.ErrArg
	}
	m.splice(id)
	return api.OK
}

func (m *model) move(id, parent, at int) api.Errno {
	switch {
	case !m.has(id, parent):
		return api.ErrNone
	case m.isText(parent):
		return api.ErrKind
	case m.nodes[id].parent < 0:
		return api.ErrArg
	}
	length := m.length(parent)
	if m.nodes[id].parent == parent {
		length--
	}
	switch {
	case at < 0 || at > length:
		return api.ErrArg
	case slices.Contains(m.within(id), parent):
		return api.ErrLoop
	case m.depthOf(parent)+1+m.heightOf(id) > m.depth:
		return api.ErrDeep
	}
	from := m.nodes[id].parent
	i := slices.Index(m.nodes[from].row, id)
	m.replace(from, i, i+1)
	i = behind(m.nodes[parent].row, at)
	m.replace(parent, i, i, id)
	return api.OK
}

func (m *model) normalise(id int) api.Errno {
	if !m.has(id) {
		return api.ErrNone
	}
	for _, n := range m.within(id) {
		for at := 0; m.has(n) && at < len(m.kids(n)); {
			if !m.joins(m.kids(n)[at:]) {
				at++
			}
		}
	}
	return api.OK
}

// joins does what is to be done with the first of these kids, if there is something.
func (m *model) joins(kids []int) bool {
	switch {
	case !m.isText(kids[0]):
		return false
	case m.length(kids[0]) == 0:
		m.splice(kids[0])
		return true
	case len(kids) == 1 || !m.isText(kids[1]):
		return false
	case m.length(kids[1]) == 0:
		m.splice(kids[1])
		return true
	case len(m.flat(kids[0]))+len(m.flat(kids[1])) > 8192:
		return false
	}
	text, other := m.nodes[kids[0]], m.nodes[kids[1]]
	row := m.nodes[text.parent].row
	i, j := slices.Index(row, kids[0]), slices.Index(row, kids[1])
	text.row = slices.Concat(text.row, row[i+1:j], other.row)
	m.replace(text.parent, i+1, j+1)
	delete(m.nodes, kids[1])
	return true
}

func (m *model) flat(id int) string {
	if !m.has(id) {
		return ""
	}
	s := ""
	for _, n := range m.within(id) {
		if m.isText(n) {
			s += said(items(m.nodes[n].row))
		}
	}
	return s
}

// call is one of the package's, and what it is of a model.
type call struct {
	name  string
	tree  func(t *live.Tree) (int, api.Errno)
	model func(m *model) (int, api.Errno)
}

func zero(err api.Errno) (int, api.Errno) { return 0, err }

func cutting(id, at int) call {
	return call{fmt.Sprintf("SplitText(%d, %d)", id, at), func(t *live.Tree) (int, api.Errno) { return parts.SplitText(t, id, at) }, func(m *model) (int, api.Errno) { return m.splitText(id, at) }}
}

func splitting(id, at int) call {
	return call{fmt.Sprintf("Split(%d, %d)", id, at), func(t *live.Tree) (int, api.Errno) { return parts.Split(t, id, at) }, func(m *model) (int, api.Errno) { return m.split(id, at) }}
}

func wrapping(parent, at, n, tag int, attrs ...api.Attr) call {
	return call{fmt.Sprintf("Wrap(%d, %d, %d, %d, %v)", parent, at, n, tag, attrs), func(t *live.Tree) (int, api.Errno) { return parts.Wrap(t, parent, at, n, tag, attrs...) }, func(m *model) (int, api.Errno) { return m.wrap(parent, at, n, tag, attrs) }}
}

func unwrapping(id int) call {
	return call{fmt.Sprintf("Unwrap(%d)", id), func(t *live.Tree) (int, api.Errno) { return zero(parts.Unwrap(t, id)) }, func(m *model) (int, api.Errno) { return zero(m.unwrap(id)) }}
}

func moving(id, parent, at int) call {
	return call{fmt.Sprintf("Move(%d, %d, %d)", id, parent, at), func(t *live.Tree) (int, api.Errno) { return zero(parts.Move(t, id, parent, at)) }, func(m *model) (int, api.Errno) { return zero(m.move(id, parent, at)) }}
}

func normalising(id int) call {
	return call{fmt.Sprintf("Normalise(%d)", id), func(t *live.Tree) (int, api.Errno) { return zero(parts.Normalise(t, id)) }, func(m *model) (int, api.Errno) { return zero(m.normalise(id)) }}
}

// alike is whether both say the same: in which order the marks of one gap stand says nothing.
func alike(m, other *model) bool {
	return m.capacity == other.capacity && m.depth == other.depth && maps.EqualFunc(m.nodes, other.nodes, func(a, b *node) bool {
		return a.tag == b.tag && a.parent == b.parent && slices.Equal(a.attrs, b.attrs) && slices.Equal(sorted(a.row), sorted(b.row))
	})
}

func sorted(row []int) []int {
	l := slices.Clone(row)
	for i := 0; i < len(l); i++ {
		end := i
		for end < len(l) && isMark(l[end]) {
			end++
		}
		slices.Sort(l[i:end])
		i = max(i, end-1)
	}
	return l
}

// do makes the calls, and holds the tree against its model behind each; the last one's answer is told.
func do(t *testing.T, tree *live.Tree, calls ...call) (int, api.Errno) {
	t.Helper()
	var got int
	var err api.Errno
	for _, c := range calls {
		before, then := modelOf(tree), modelOf(tree)
		got, err = c.model(then)
		expect(t, tree, before, then, c, got, err)
	}
	return got, err
}

// expect makes the call, and holds the answer, and the tree behind it, against these.
func expect(t *testing.T, tree *live.Tree, before, then *model, c call, want int, wantErr api.Errno) {
	t.Helper()
	got, err := c.tree(tree)
	if now := modelOf(tree); got != want || err != wantErr || !alike(now, then) {
		t.Fatalf("%s of %s:\ngot  %d, %d, %s\nwant %d, %d, %s", c.name, before, got, err, now, want, wantErr, then)
	}
}

// holdAll holds each place that may be, and each second one once more.
func holdAll(t *testing.T, tree *live.Tree) {
	t.Helper()
	m := modelOf(tree)
	for _, id := range slices.Sorted(maps.Keys(m.nodes)) {
		for at := range m.length(id) + 1 {
			for range 1 + at%2 {
				if _, err := tree.Hold(spot(id, at)); err != api.OK {
					t.Fatalf("Hold of %d, %d: %d", id, at, err)
				}
			}
		}
	}
}

// states are all trees of up to count nodes that may be made of elements, and these texts. Where shapes alone are asked for, trees that are alike but for their nodes' numbers are one.
func states(t *testing.T, capacity, count, depth int, shapes bool, texts ...string) []*live.Tree {
	t.Helper()
	all := []*live.Tree{newTree(t, capacity, depth)}
	seen := map[string]bool{}
	for i := 0; i < len(all); i++ {
		for _, change := range building(count, texts...) {
			c := all[i].Copy()
			if change(c) != api.OK || c.Count() > count {
				continue
			}
			key := modelOf(c).String()
			if shapes {
				key = shape(c)
			}
			if !seen[key] {
				seen[key] = true
				all = append(all, c)
			}
		}
	}
	return all
}

// shape tells the plain trees that there are, the host's first.
func shape(t *live.Tree) string {
	var l []string
	for id := range capacityOf(t) {
		if t.Has(id) && t.Parent(id) < 0 {
			l = append(l, fmt.Sprint(t.Plain(id)))
		}
	}
	slices.Sort(l[1:])
	return fmt.Sprint(l)
}

func capacityOf(t *live.Tree) int {
	capacity, _ := t.Room()
	return capacity
}

func building(count int, texts ...string) []func(t *live.Tree) api.Errno {
	l := []func(t *live.Tree) api.Errno{func(t *live.Tree) api.Errno {
		_, err := t.Element(api.TagP, api.Attr{Name: "style", Value: "x"})
		return err
	}}
	for _, s := range texts {
		l = append(l, func(t *live.Tree) api.Errno { _, err := t.Text(s); return err })
	}
	for id := range count {
		for at := range count {
			for kid := range count {
				l = append(l, func(t *live.Tree) api.Errno { return t.Insert(id, at, kid) })
			}
		}
	}
	return l
}

func newTree(t *testing.T, capacity, depth int) *live.Tree {
	t.Helper()
	tree, err := live.New(capacity, depth)
	if err != api.OK {
		t.Fatalf("New(%d, %d) = %d", capacity, depth, err)
	}
	return tree
}

// far are numbers far from those of nodes, places and handles.
var far = []int{math.MinInt, math.MinInt + 1, -1<<32 - 1, -1 << 32, -1 << 31, -2001, 2000, 2001, 1<<30 + 1, 1 << 31, 1 << 32, 1<<32 + 1, math.MaxInt - 1, math.MaxInt}

// dice are numbers without end that look as if thrown, and are the same each time.
type dice uint64

func (d *dice) below(n int) int {
	*d = *d*6364136223846793005 + 1442695040888963407
	return int(uint64(*d)>>33) % n
}

func pick[T any](d *dice, l ...T) T { return l[d.below(len(l))] }
