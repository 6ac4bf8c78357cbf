package ranges_test

import (
	"fmt"
	"maps"
	"math"
	"slices"
	"strings"
	"testing"

	"quillwork/api"
	"quillwork/live"
)

type place = api.Place

func spot(node, at int) place { return place{Node: node, At: at} }

// model is a tree written down as rows, one for each root: the signs of its nodes, of its characters, and of the places that are held. Each place is a gap between two signs of a row (there may be marks in it), so that a range is a piece of a row.
type model struct {
	capacity, depth int
	nodes           map[int]node
	rows            map[int][]sign
}

type node struct {
	tag   int
	attrs []api.Attr
}

type sign struct{ kind, n int }

const (
	begins    = iota // the node n
	ends             // the node n
	character        // n
	mark             // the handle n
)

// modelOf tells what stands in a live tree now.
func modelOf(t *live.Tree) *model {
	m := &model{nodes: map[int]node{}, rows: map[int][]sign{}}
	m.capacity, m.depth = t.Room()
	for id := range m.capacity {
		if t.Has(id) {
			m.nodes[id] = node{t.Tag(id), t.Attrs(id)}
		}
		if t.Has(id) && t.Parent(id) < 0 {
			m.rows[id] = rowOf(t, id)
		}
	}
	for _, handle := range t.Handles() {
		p, _ := t.Held(handle)
		root, _, to, _ := m.gap(p)
		m.rows[root] = slices.Insert(m.rows[root], to, sign{mark, handle})
	}
	return m
}

func rowOf(t *live.Tree, id int) []sign {
	row := []sign{{begins, id}}
	for _, r := range t.Told(id) {
		row = append(row, sign{character, int(r)})
	}
	for _, kid := range t.Kids(id) {
		row = append(row, rowOf(t, kid)...)
	}
	return append(row, sign{ends, id})
}

func (m *model) copied() *model {
	c := &model{m.capacity, m.depth, maps.Clone(m.nodes), map[int][]sign{}}
	for root, row := range m.rows {
		c.rows[root] = slices.Clone(row)
	}
	return c
}

func (m *model) rootOf(id int) int {
	for root, row := range m.rows {
		if slices.Contains(row, sign{begins, id}) {
			return root
		}
	}
	return -1
}

// gap is the row in which a place is, and where: ahead of its marks, and behind them.
func (m *model) gap(p place) (root, from, to int, ok bool) {
	root = m.rootOf(p.Node)
	row := m.rows[root]
	level, count := 0, 0
	for i := slices.Index(row, sign{begins, p.Node}) + 1; i < len(row) && level >= 0; i++ {
		if level == 0 && count == p.At {
			return root, i, behindMarks(row, i), true
		}
		switch row[i].kind {
		case begins:
			level++
			continue
		case ends:
			level--
		case mark:
			continue
		}
		if level == 0 {
			count++
		}
	}
	return -1, 0, 0, false
}

func behindMarks(row []sign, i int) int {
	for i < len(row) && row[i].kind == mark {
		i++
	}
	return i
}

// placeOf is the place of a gap.
func placeOf(row []sign, gap int) place {
	var around []place
	for _, s := range row[:gap] {
		switch s.kind {
		case begins:
			around = append(around, spot(s.n, 0))
		case ends:
			around = around[:len(around)-1]
		}
		if len(around) > 0 && (s.kind == ends || s.kind == character) {
			around[len(around)-1].At++
		}
	}
	return around[len(around)-1]
}

// places are all that may be.
func (m *model) places() []place {
	var l []place
	for _, root := range slices.Sorted(maps.Keys(m.rows)) {
		row := m.rows[root]
		for gap := 1; gap < len(row); gap++ {
			if row[gap-1].kind != mark {
				l = append(l, placeOf(row, gap))
			}
		}
	}
	return l
}

// between is the row of both places, and their gaps; false, if they are no range.
func (m *model) between(a, b place) (root, from, to int, ok bool) {
	root, from, _, ok = m.gap(a)
	other, to, _, also := m.gap(b)
	return root, from, to, ok && also && root == other && from <= to
}

func (m *model) common(a, b place) (int, bool) {
	root, from, to, ok := m.between(a, b)
	if !ok {
		return 0, false
	}
	row := m.rows[root]
	for i := from - 1; ; i-- {
		if row[i].kind == begins && slices.Index(row, sign{ends, row[i].n}) >= to {
			return row[i].n, true
		}
	}
}

func (m *model) text(a, b place) string {
	root, from, to, ok := m.between(a, b)
	if !ok {
		return ""
	}
	return said(m.rows[root][from:to])
}

func said(row []sign) string {
	var b strings.Builder
	for _, s := range row {
		if s.kind == character {
			b.WriteRune(rune(s.n))
		}
	}
	return b.String()
}

// halves are those signs of a piece whose other half is not in it.
func halves(piece []sign) (closing, opening []sign) {
	for _, s := range piece {
		switch {
		case s.kind == begins:
			opening = append(opening, s)
		case s.kind == ends && len(opening) > 0:
			opening = opening[:len(opening)-1]
		case s.kind == ends:
			closing = append(closing, s)
		}
	}
	return closing, opening
}

// clone has the halves that a piece lacks put to it.
func (m *model) clone(a, b place) ([]api.Node, api.Errno) {
	root, from, to, ok := m.between(a, b)
	if !ok {
		return nil, api.ErrArg
	}
	piece := slices.Clone(m.rows[root][from:to])
	closing, opening := halves(piece)
	for _, s := range closing {
		piece = slices.Insert(piece, 0, sign{begins, s.n})
	}
	slices.Reverse(opening)
	for _, s := range opening {
		piece = append(piece, sign{ends, s.n})
	}
	return m.plain(piece), api.OK
}

// plain tells a row of whole nodes, or of characters alone.
func (m *model) plain(row []sign) []api.Node {
	open := []api.Node{{}}
	for _, s := range row {
		last := len(open) - 1
		switch s.kind {
		case begins:
			open = append(open, api.Node{Tag: m.nodes[s.n].tag, Attrs: m.nodes[s.n].attrs})
		case ends:
			open[last-1].Kids = append(open[last-1].Kids, open[last])
			open = open[:last]
		case character:
			open[last].Text += string(rune(s.n))
		}
	}
	if open[0].Text != "" {
		return []api.Node{{Text: open[0].Text}}
	}
	return open[0].Kids
}

// remove leaves of a piece its marks, and the signs whose other half is not in it; the place is where those of both kinds meet.
func (m *model) remove(a, b place) (place, api.Errno) {
	root, from, to, ok := m.between(a, b)
	if !ok {
		return place{}, api.ErrArg
	}
	row := m.rows[root]
	closing, opening := halves(row[from:to])
	left, meet := slices.Clone(row[:from]), from
	for _, s := range row[from:to] {
		switch {
		case s.kind == mark, slices.Contains(closing, s), slices.Contains(opening, s):
			left = append(left, s)
		case s.kind == begins:
			delete(m.nodes, s.n)
		}
		if slices.Contains(closing, s) {
			meet = len(left)
		}
	}
	m.rows[root] = slices.Concat(left, row[to:])
	return placeOf(m.rows[root], meet), api.OK
}

func (m *model) extract(a, b place) ([]api.Node, place, api.Errno) {
	l, err := m.clone(a, b)
	if err != api.OK {
		return nil, place{}, err
	}
	p, err := m.remove(a, b)
	return l, p, err
}

// put is refused as a whole: nothing of it stays then.
func (m *model) put(p place, l ...api.Node) api.Errno {
	root, _, to, ok := m.gap(p)
	if !ok {
		return api.ErrArg
	}
	isText := m.nodes[p.Node].tag == api.TagText
	switch {
	case isText && p.Node == root && len(l) == 0:
		return api.OK
	case isText && p.Node == root:
		return api.ErrKind
	}
	c := m.copied()
	if isText {
		var err api.Errno
		if to, err = c.among(root, p, to); err != api.OK {
			return err
		}
	}
	for _, n := range l {
		fresh, err := c.grown(c.depthAt(root, to), n)
		if err != api.OK {
			return err
		}
		c.rows[root] = slices.Insert(c.rows[root], to, fresh...)
		to += len(fresh)
	}
	*m = *c
	return api.OK
}

// among is the gap of a text's parent where something is put that is put at that gap of the text.
func (m *model) among(root int, p place, gap int) (int, api.Errno) {
	row := m.rows[root]
	begin, end := slices.Index(row, sign{begins, p.Node}), slices.Index(row, sign{ends, p.Node})
	switch {
	case p.At == 0:
		return begin, api.OK
	case said(row[gap:end]) == "":
		return behindMarks(row, end+1), api.OK
	case len(m.nodes) == m.capacity:
		return 0, api.ErrFull
	}
	fresh := m.add(api.Node{})
	m.rows[root] = slices.Concat(row[:gap], []sign{{ends, p.Node}, {begins, fresh}}, row[gap:end], []sign{{ends, fresh}}, row[end+1:])
	return gap + 1, api.OK
}

// add gives a node the least number that there is.
func (m *model) add(n api.Node) int {
	id := 0
	for has := true; has; {
		if _, has = m.nodes[id]; has {
			id++
		}
	}
	m.nodes[id] = node{n.Tag, slices.Clone(n.Attrs)}
	return id
}

// depthAt is that of what would be put at a gap.
func (m *model) depthAt(root, gap int) int {
	depth := 0
	for _, s := range m.rows[root][:gap] {
		switch s.kind {
		case begins:
			depth++
		case ends:
			depth--
		}
	}
	return depth
}

// grown is the row of a plain tree whose nodes are new, at that depth.
func (m *model) grown(depth int, n api.Node) ([]sign, api.Errno) {
	l := flat(n)
	for _, n := range l {
		if n.Tag < 0 || n.Tag > 16 || n.Tag > 0 && n.Text != "" || n.Tag == 0 && len(n.Attrs)+len(n.Kids) > 0 {
			return nil, api.ErrArg
		}
	}
	for _, n := range l {
		if len(string([]rune(n.Text))) > 8192 {
			return nil, api.ErrLong
		}
	}
	switch {
	case depth+height(n) > m.depth:
		return nil, api.ErrDeep
	case len(m.nodes)+len(l) > m.capacity:
		return nil, api.ErrFull
	}
	return m.sown(n), api.OK
}

func (m *model) sown(n api.Node) []sign {
	id := m.add(n)
	row := []sign{{begins, id}}
	for _, r := range n.Text {
		row = append(row, sign{character, int(r)})
	}
	for _, kid := range n.Kids {
		row = append(row, m.sown(kid)...)
	}
	return append(row, sign{ends, id})
}

// flat is a plain tree's nodes, one by one.
func flat(n api.Node) []api.Node {
	l := []api.Node{n}
	for _, kid := range n.Kids {
		l = append(l, flat(kid)...)
	}
	return l
}

func height(n api.Node) int {
	most := 0
	for _, kid := range n.Kids {
		most = max(most, height(kid)+1)
	}
	return most
}

// alike is whether both say the same: in which order the marks of one gap stand says nothing.
func alike(m, other *model) bool {
	return m.capacity == other.capacity && m.depth == other.depth &&
		maps.EqualFunc(m.nodes, other.nodes, func(a, b node) bool { return a.tag == b.tag && slices.Equal(a.attrs, b.attrs) }) &&
		maps.EqualFunc(m.rows, other.rows, func(a, b []sign) bool { return slices.Equal(sorted(a), sorted(b)) })
}

func sorted(row []sign) []sign {
	l := slices.Clone(row)
	for i := 0; i < len(l); i++ {
		end := behindMarks(l, i)
		slices.SortFunc(l[i:end], func(a, b sign) int { return a.n - b.n })
		i = max(i, end-1)
	}
	return l
}

func (m *model) String() string {
	var b strings.Builder
	fmt.Fprint(&b, "room ", m.capacity, " ", m.depth)
	for _, root := range slices.Sorted(maps.Keys(m.rows)) {
		b.WriteString("; ")
		for _, s := range m.rows[root] {
			switch s.kind {
			case begins:
				fmt.Fprintf(&b, "%d:%d%v(", s.n, m.nodes[s.n].tag, m.nodes[s.n].attrs)
			case ends:
				b.WriteString(")")
			case character:
				b.WriteString(string(rune(s.n)))
			case mark:
				fmt.Fprintf(&b, "{%d}", s.n)
			}
		}
	}
	if b.Len() > 2000 {
		return b.String()[:2000] + " .."
	}
	return b.String()
}

// sameNodes counts nil and empty lists as one.
func sameNodes(a, b []api.Node) bool {
	return slices.EqualFunc(a, b, func(a, b api.Node) bool {
		return a.Tag == b.Tag && a.Text == b.Text && slices.Equal(a.Attrs, b.Attrs) && sameNodes(a.Kids, b.Kids)
	})
}

func newTree(t *testing.T, capacity, depth int) *live.Tree {
	t.Helper()
	tree, err := live.New(capacity, depth)
	if err != api.OK {
		t.Fatalf("New(%d, %d) = %d", capacity, depth, err)
	}
	return tree
}

func capacityOf(t *live.Tree) int {
	capacity, _ := t.Room()
	return capacity
}

// states are all trees of up to count nodes that may be made of elements, and these texts. Where shapes alone are asked for, trees that are alike but for their nodes' numbers are one.
func states(t *testing.T, capacity, count, depth int, shapes bool, texts ...string) []*live.Tree {
	t.Helper()
	all := []*live.Tree{newTree(t, capacity, depth)}
	seen := map[string]bool{}
	for i := 0; i < len(all); i++ {
		for _, change := range building(count, texts...) {
			c := all[i].Copy()
			if change(c) != api.OK || c.Count() > count {
				continue
			}
			key := modelOf(c).String()
			if shapes {
				key = shape(c)
			}
			if !seen[key] {
				seen[key] = true
				all = append(all, c)
			}
		}
	}
	return all
}

// shape tells the plain trees that there are, the host's first.
func shape(t *live.Tree) string {
	var l []string
	for id := range capacityOf(t) {
		if t.Has(id) && t.Parent(id) < 0 {
			l = append(l, fmt.Sprint(t.Plain(id)))
		}
	}
	slices.Sort(l[1:])
	return fmt.Sprint(l)
}

func building(count int, texts ...string) []func(t *live.Tree) api.Errno {
	l := []func(t *live.Tree) api.Errno{func(t *live.Tree) api.Errno {
		_, err := t.Element(api.TagP, api.Attr{Name: "style", Value: "x"})
		return err
	}}
	for _, s := range texts {
		l = append(l, func(t *live.Tree) api.Errno { _, err := t.Text(s); return err })
	}
	for id := range count {
		for at := range count {
			for kid := range count {
				l = append(l, func(t *live.Tree) api.Errno { return t.Insert(id, at, kid) })
			}
		}
	}
	return l
}

// far are numbers far from those of nodes, places and handles.
var far = []int{math.MinInt, math.MinInt + 1, -1<<32 - 1, -1 << 32, -1 << 31, -2001, 2000, 2001, 1<<30 + 1, 1 << 31, 1 << 32, 1<<32 + 1, math.MaxInt - 1, math.MaxInt}

// dice are numbers without end that look as if thrown, and are the same each time.
type dice uint64

func (d *dice) below(n int) int {
	*d = *d*6364136223846793005 + 1442695040888963407
	return int(uint64(*d)>>33) % n
}

func pick[T any](d *dice, l ...T) T { return l[d.below(len(l))] }
