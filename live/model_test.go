package live_test

import (
	"fmt"
	"maps"
	"math"
	"slices"
	"strings"
	"testing"
	"unicode/utf8"

	"quillwork/api"
	"quillwork/dom"
	"quillwork/live"
)

type place = api.Place

func spot(node, at int) place { return place{Node: node, At: at} }

// model is a twin of the tree, without handles, and a row of each node: its characters, or its kids, with a mark for each handle where its place is. The changes carry the marks along.
type model struct {
	twin *dom.Tree
	rows map[int][]int
}

// mark is no kid's number, and no character.
func mark(handle int) int { return -1 - handle }

func isMark(item int) bool { return item < 0 }

func newModel(t *testing.T, capacity, depth int) *model {
	t.Helper()
	twin, err := dom.New(capacity, depth)
	if err != api.OK {
		t.Fatalf("New(%d, %d) = %d", capacity, depth, err)
	}
	return &model{twin, map[int][]int{0: nil}}
}

func (m *model) copied() *model {
	c := &model{m.twin.Copy(), maps.Clone(m.rows)}
	for id := range c.rows {
		c.rows[id] = slices.Clone(c.rows[id])
	}
	return c
}

// length is how many items there are in the row; below 0 of what is no node.
func (m *model) length(id int) int {
	row, ok := m.rows[id]
	if !ok {
		return -1
	}
	count := 0
	for _, item := range row {
		if !isMark(item) {
			count++
		}
	}
	return count
}

func (m *model) may(p place) bool { return p.At >= 0 && p.At <= m.length(p.Node) }

// places are all that may be.
func (m *model) places() []place {
	var l []place
	for _, id := range slices.Sorted(maps.Keys(m.rows)) {
		for at := range m.length(id) + 1 {
			l = append(l, spot(id, at))
		}
	}
	return l
}

// held is where each mark is.
func (m *model) held() map[int]place {
	all := map[int]place{}
	for id, row := range m.rows {
		at := 0
		for _, item := range row {
			if isMark(item) {
				all[mark(item)] = spot(id, at)
			} else {
				at++
			}
		}
	}
	return all
}

// ahead is where the gap ahead of a row's at-th item begins, behind is where it ends; the marks in it are between.
func (m *model) ahead(id, at int) int {
	i := 0
	for ; at > 0; i++ {
		if !isMark(m.rows[id][i]) {
			at--
		}
	}
	return i
}

func (m *model) behind(id, at int) int {
	i := m.ahead(id, at)
	for i < len(m.rows[id]) && isMark(m.rows[id][i]) {
		i++
	}
	return i
}

// put has the items behind the marks that are just there.
func (m *model) put(id, at int, items ...int) {
	m.rows[id] = slices.Insert(m.rows[id], m.behind(id, at), items...)
}

// take leaves the marks around the item.
func (m *model) take(id, at int) {
	i := m.behind(id, at)
	m.rows[id] = slices.Delete(m.rows[id], i, i+1)
}

// within is the node, and all that its rows lead to.
func (m *model) within(id int) []int {
	l := []int{id}
	for _, item := range m.rows[id] {
		if !isMark(item) && m.twin.Tag(id) != api.TagText {
			l = append(l, m.within(item)...)
		}
	}
	return l
}

// unmark takes the marks out of the node, and of all within.
func (m *model) unmark(id int) []int {
	var marks []int
	for _, n := range m.within(id) {
		for _, item := range m.rows[n] {
			if isMark(item) {
				marks = append(marks, item)
			}
		}
		m.rows[n] = slices.DeleteFunc(m.rows[n], isMark)
	}
	return marks
}

func (m *model) hold(p place) (int, api.Errno) {
	if !m.may(p) {
		return 0, api.ErrArg
	}
	handle, all := 0, m.held()
	for {
		if _, ok := all[handle]; !ok {
			break
		}
		handle++
	}
	m.put(p.Node, p.At, mark(handle))
	return handle, api.OK
}

func (m *model) free(handle int) api.Errno {
	p, ok := m.held()[handle]
	if !ok {
		return api.ErrNone
	}
	isIt := func(item int) bool { return item == mark(handle) }
	m.rows[p.Node] = slices.DeleteFunc(m.rows[p.Node], isIt)
	return api.OK
}

func (m *model) place(handle int, p place) api.Errno {
	if _, ok := m.held()[handle]; !ok {
		return api.ErrNone
	}
	if !m.may(p) {
		return api.ErrArg
	}
	m.free(handle)
	m.put(p.Node, p.At, mark(handle))
	return api.OK
}

func (m *model) element(tag int) (int, api.Errno) {
	id, err := m.twin.Element(tag)
	if err == api.OK {
		m.rows[id] = nil
	}
	return id, err
}

func (m *model) text(s string) (int, api.Errno) {
	id, err := m.twin.Text(s)
	if err == api.OK {
		m.rows[id] = characters(s)
	}
	return id, err
}

func characters(s string) []int {
	var l []int
	for len(s) > 0 {
		r, size := utf8.DecodeRuneInString(s)
		l = append(l, int(r))
		s = s[size:]
	}
	return l
}

func said(characters []int) string {
	var b []byte
	for _, r := range characters {
		b = utf8.AppendRune(b, rune(r))
	}
	return string(b)
}

func (m *model) insert(parent, at, kid int) api.Errno {
	err := m.twin.Insert(parent, at, kid)
	if err == api.OK {
		m.put(parent, at, kid)
	}
	return err
}

func (m *model) graft(parent, at int, n api.Node) (int, api.Errno) {
	id, err := m.twin.Graft(parent, at, n)
	if err == api.OK {
		m.put(parent, at, id)
		m.grow(id)
	}
	return id, err
}

func (m *model) grow(id int) {
	m.rows[id] = slices.Concat(characters(m.twin.Told(id)), m.twin.Kids(id))
	for _, kid := range m.twin.Kids(id) {
		m.grow(kid)
	}
}

func (m *model) remove(id int) api.Errno {
	parent, at := m.twin.Parent(id), m.twin.Index(id)
	err := m.twin.Remove(id)
	if err == api.OK {
		marks := m.unmark(id)
		m.take(parent, at)
		m.put(parent, at, marks...)
	}
	return err
}

func (m *model) drop(id int) api.Errno {
	if err := m.twin.Copy().Drop(id); err != api.OK {
		return err
	}
	m.put(0, 0, m.unmark(id)...)
	for _, n := range m.within(id) {
		delete(m.rows, n)
	}
	return m.twin.Drop(id)
}

func (m *model) replace(id, at, count int, s string) api.Errno {
	if _, ok := m.rows[id]; !ok {
		return api.ErrNone
	}
	if m.twin.Tag(id) != api.TagText {
		return api.ErrKind
	}
	length := m.length(id)
	if at < 0 || at > length || count < 0 {
		return api.ErrArg
	}
	count = min(count, length-at)
	c := m.copied()
	for range count {
		c.take(id, at)
	}
	c.put(id, at, characters(s)...)
	if m.twin.SetText(id, said(slices.DeleteFunc(slices.Clone(c.rows[id]), isMark))) != api.OK {
		return api.ErrLong
	}
	m.rows = c.rows
	return api.OK
}

func (m *model) setText(id int, s string) api.Errno {
	if err := m.twin.Copy().SetText(id, s); err != api.OK {
		return err
	}
	return m.replace(id, 0, math.MaxInt, s)
}

// told is all that a tree of dom's says of itself.
func told(t *dom.Tree) string {
	var b strings.Builder
	capacity, depth := t.Room()
	fmt.Fprint(&b, capacity, depth, t.Count())
	for id := range capacity {
		if t.Has(id) {
			fmt.Fprint(&b, ";", id, t.Tag(id), t.Attrs(id), t.Kids(id), t.Parent(id))
			fmt.Fprintf(&b, "%q", t.Told(id))
		}
	}
	return b.String()
}

// unlike tells what a live tree says otherwise than its model.
func unlike(t *live.Tree, m *model) string {
	if got, want := told(t.Tree), told(m.twin); got != want {
		return fmt.Sprintf("the tree is %s, not %s", got, want)
	}
	all := m.held()
	if got, want := t.Handles(), slices.Sorted(maps.Keys(all)); !slices.Equal(got, want) {
		return fmt.Sprintf("the handles are %v, not %v", got, want)
	}
	for handle, want := range all {
		if got, ok := t.Held(handle); !ok || got != want {
			return fmt.Sprintf("the place of %d is %v, %t, not %v", handle, got, ok, want)
		}
	}
	return ""
}

// call is one that changes a live tree, and what it is of a model.
type call struct {
	name  string
	tree  func(t *live.Tree) (int, api.Errno)
	model func(m *model) (int, api.Errno)
}

func zero(err api.Errno) (int, api.Errno) { return 0, err }

func insertion(parent, at, kid int) call {
	return call{fmt.Sprintf("Insert(%d, %d, %d)", parent, at, kid), func(t *live.Tree) (int, api.Errno) { return zero(t.Insert(parent, at, kid)) }, func(m *model) (int, api.Errno) { return zero(m.insert(parent, at, kid)) }}
}

func graft(parent, at int, n api.Node) call {
	return call{fmt.Sprintf("Graft(%d, %d, %v)", parent, at, n), func(t *live.Tree) (int, api.Errno) { return t.Graft(parent, at, n) }, func(m *model) (int, api.Errno) { return m.graft(parent, at, n) }}
}

func removal(id int) call {
	return call{fmt.Sprintf("Remove(%d)", id), func(t *live.Tree) (int, api.Errno) { return zero(t.Remove(id)) }, func(m *model) (int, api.Errno) { return zero(m.remove(id)) }}
}

func dropping(id int) call {
	return call{fmt.Sprintf("Drop(%d)", id), func(t *live.Tree) (int, api.Errno) { return zero(t.Drop(id)) }, func(m *model) (int, api.Errno) { return zero(m.drop(id)) }}
}

func replacement(id, at, count int, s string) call {
	return call{fmt.Sprintf("Replace(%d, %d, %d, %.9q)", id, at, count, s), func(t *live.Tree) (int, api.Errno) { return zero(t.Replace(id, at, count, s)) }, func(m *model) (int, api.Errno) { return zero(m.replace(id, at, count, s)) }}
}

func setting(id int, s string) call {
	return call{fmt.Sprintf("SetText(%d, %.9q)", id, s), func(t *live.Tree) (int, api.Errno) { return zero(t.SetText(id, s)) }, func(m *model) (int, api.Errno) { return zero(m.setText(id, s)) }}
}

func element(tag int) call {
	return call{fmt.Sprintf("Element(%d)", tag), func(t *live.Tree) (int, api.Errno) { return t.Element(tag) }, func(m *model) (int, api.Errno) { return m.element(tag) }}
}

func text(s string) call {
	return call{fmt.Sprintf("Text(%.9q)", s), func(t *live.Tree) (int, api.Errno) { return t.Text(s) }, func(m *model) (int, api.Errno) { return m.text(s) }}
}

func holding(p place) call {
	return call{fmt.Sprintf("Hold(%v)", p), func(t *live.Tree) (int, api.Errno) { return t.Hold(p) }, func(m *model) (int, api.Errno) { return m.hold(p) }}
}

func placing(handle int, p place) call {
	return call{fmt.Sprintf("Place(%d, %v)", handle, p), func(t *live.Tree) (int, api.Errno) { return zero(t.Place(handle, p)) }, func(m *model) (int, api.Errno) { return zero(m.place(handle, p)) }}
}

func freeing(handle int) call {
	return call{fmt.Sprintf("Free(%d)", handle), func(t *live.Tree) (int, api.Errno) { return zero(t.Free(handle)) }, func(m *model) (int, api.Errno) { return zero(m.free(handle)) }}
}

// pair is a live tree with its model, and by which calls it came.
type pair struct {
	tree  *live.Tree
	model *model
	way   string
}

func newPair(t *testing.T, capacity, depth int) pair {
	t.Helper()
	tree, err := live.New(capacity, depth)
	if err != api.OK {
		t.Fatalf("New(%d, %d) = %d", capacity, depth, err)
	}
	return pair{tree, newModel(t, capacity, depth), fmt.Sprintf("New(%d, %d)", capacity, depth)}
}

func (p pair) copied() pair { return pair{p.tree.Copy(), p.model.copied(), p.way} }

// do makes the calls, and holds the tree against its model behind each.
func (p *pair) do(t *testing.T, calls ...call) api.Errno {
	t.Helper()
	var last api.Errno
	for _, c := range calls {
		p.way += "; " + c.name
		got, err := c.tree(p.tree)
		if want, wantErr := c.model(p.model); got != want || err != wantErr {
			t.Fatalf("%s: got %d, %d, want %d, %d", p.way, got, err, want, wantErr)
		}
		if s := unlike(p.tree, p.model); s != "" {
			t.Fatalf("%s: %s", p.way, s)
		}
		last = err
	}
	return last
}

// holdAll holds each place that may be, the first ones of them twice, and not in their order.
func (p *pair) holdAll(t *testing.T) {
	t.Helper()
	all := p.model.places()
	for i := range all {
		p.do(t, holding(all[len(all)-1-i]))
	}
	p.do(t, holding(all[0]), holding(all[len(all)/2]))
}

// states are all trees that these calls lead to, without handles.
func states(t *testing.T, capacity, depth int, leading []call) []pair {
	t.Helper()
	all := []pair{newPair(t, capacity, depth)}
	seen := map[string]bool{told(all[0].model.twin): true}
	for i := 0; i < len(all); i++ {
		for _, c := range leading {
			if _, err := c.model(all[i].model.copied()); err != api.OK {
				continue
			}
			p := all[i].copied()
			p.do(t, c)
			if s := told(p.model.twin); !seen[s] {
				seen[s] = true
				all = append(all, p)
			}
		}
	}
	return all
}

// building are calls that lead to trees of all shapes, with texts of these.
func building(capacity int, texts ...string) []call {
	l := []call{element(api.TagP)}
	for _, s := range texts {
		l = append(l, text(s))
	}
	for id := range capacity {
		l = append(l, dropping(id))
		for kid := range capacity {
			for at := range capacity {
				l = append(l, insertion(id, at, kid))
			}
		}
	}
	return l
}

// far are numbers far from those of nodes, places and handles.
var far = []int{math.MinInt, math.MinInt + 1, -1<<32 - 1, -1 << 32, -1 << 31, -2001, 2000, 2001, 1<<30 + 1, 1 << 31, 1 << 32, 1<<32 + 1, math.MaxInt - 1, math.MaxInt}

// dice are numbers without end that look as if thrown, and are the same each time.
type dice uint64

func (d *dice) below(n int) int {
	*d = *d*6364136223846793005 + 1442695040888963407
	return int(uint64(*d)>>33) % n
}

func pick[T any](d *dice, l ...T) T { return l[d.below(len(l))] }
