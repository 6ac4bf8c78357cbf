package dom_test

import (
	"math"
	"slices"
	"unicode/utf8"

	"quillwork/api"
	"quillwork/dom"
)

// model is a tree as the chapter's words have it: nodes that point at one another. It is what trees are held against.
type model struct {
	capacity, depth int
	all             map[int]*part
}

type part struct {
	id, tag int
	text    string
	attrs   []api.Attr
	up      *part
	kids    []*part
}

func newModel(capacity, depth int) *model {
	return &model{capacity: capacity, depth: depth, all: map[int]*part{0: {tag: api.TagDiv}}}
}

func (m *model) find(id int) *part { return m.all[id] }

// least is the least number that no node has.
func (m *model) least() int {
	id := 0
	for m.find(id) != nil {
		id++
	}
	return id
}

func (p *part) depth() int {
	if p.up == nil {
		return 0
	}
	return p.up.depth() + 1
}

func (p *part) height() int {
	h := 0
	for _, k := range p.kids {
		h = max(h, 1+k.height())
	}
	return h
}

func (p *part) within(q *part) bool { return p == q || p.up != nil && p.up.within(q) }

func (p *part) plain() api.Node {
	n := api.Node{Tag: p.tag, Attrs: p.attrs, Text: p.text}
	for _, k := range p.kids {
		n.Kids = append(n.Kids, k.plain())
	}
	return n
}

// written is the text in UTF-8, each byte that begins no character as FFFD.
func written(s string) string {
	var b []byte
	for len(s) > 0 {
		r, size := utf8.DecodeRuneInString(s)
		b = utf8.AppendRune(b, r)
		s = s[size:]
	}
	return string(b)
}

// tooLong asks for the bytes as they are first, for its speed alone: written anew they are not fewer.
func tooLong(s string) bool { return len(s) > 8192 || len(written(s)) > 8192 }

func element(tag int) bool { return tag >= 1 && tag <= 16 }

func (m *model) add(tag int, text string, attrs []api.Attr) (int, api.Errno) {
	if len(m.all) >= m.capacity {
		return 0, api.ErrFull
	}
	p := &part{id: m.least(), tag: tag, text: written(text), attrs: slices.Clone(attrs)}
	m.all[p.id] = p
	return p.id, api.OK
}

func (m *model) element(tag int, attrs []api.Attr) (int, api.Errno) {
	if !element(tag) {
		return 0, api.ErrArg
	}
	return m.add(tag, "", attrs)
}

func (m *model) newText(s string) (int, api.Errno) {
	if tooLong(s) {
		return 0, api.ErrLong
	}
	return m.add(0, s, nil)
}

func (m *model) insert(parent, at, kid int) api.Errno {
	p, k := m.find(parent), m.find(kid)
	if p == nil || k == nil {
		return api.ErrNone
	}
	if p.tag == 0 {
		return api.ErrKind
	}
	if k.id == 0 || k.up != nil || at < 0 || at > len(p.kids) {
		return api.ErrArg
	}
	if p.within(k) {
		return api.ErrLoop
	}
	if p.depth()+1+k.height() > m.depth {
		return api.ErrDeep
	}
	p.put(at, k)
	return api.OK
}

func (p *part) put(at int, k *part) {
	p.kids = slices.Concat(p.kids[:at], []*part{k}, p.kids[at:])
	k.up = p
}

func (m *model) remove(id int) api.Errno {
	p := m.find(id)
	if p == nil {
		return api.ErrNone
	}
	if p.up == nil {
		return api.ErrArg
	}
	var left []*part
	for _, k := range p.up.kids {
		if k != p {
			left = append(left, k)
		}
	}
	p.up.kids, p.up = left, nil
	return api.OK
}

func (m *model) drop(id int) api.Errno {
	p := m.find(id)
	if p == nil {
		return api.ErrNone
	}
	if p.id == 0 || p.up != nil {
		return api.ErrArg
	}
	left := map[int]*part{}
	for id, q := range m.all {
		if !q.within(p) {
			left[id] = q
		}
	}
	m.all = left
	return api.OK
}

func (m *model) setAttrs(id int, attrs []api.Attr) api.Errno {
	p := m.find(id)
	if p == nil {
		return api.ErrNone
	}
	if p.tag == 0 {
		return api.ErrKind
	}
	p.attrs = slices.Clone(attrs)
	return api.OK
}

func (m *model) setText(id int, s string) api.Errno {
	p := m.find(id)
	if p == nil {
		return api.ErrNone
	}
	if p.tag != 0 {
		return api.ErrKind
	}
	if tooLong(s) {
		return api.ErrLong
	}
	p.text = written(s)
	return api.OK
}

func (m *model) setTag(id, tag int) api.Errno {
	p := m.find(id)
	if p == nil {
		return api.ErrNone
	}
	if p.tag == 0 {
		return api.ErrKind
	}
	if id == 0 || !element(tag) {
		return api.ErrArg
	}
	p.tag = tag
	return api.OK
}

// every tells whether that is so of the plain tree's nodes, each of them.
func every(n api.Node, is func(n api.Node) bool) bool {
	if !is(n) {
		return false
	}
	for _, k := range n.Kids {
		if !every(k, is) {
			return false
		}
	}
	return true
}

func mayBe(n api.Node) bool {
	if n.Tag == 0 {
		return len(n.Attrs) == 0 && len(n.Kids) == 0
	}
	return element(n.Tag) && n.Text == ""
}

func height(n api.Node) int {
	h := 0
	for _, k := range n.Kids {
		h = max(h, 1+height(k))
	}
	return h
}

func size(n api.Node) int {
	s := 1
	for _, k := range n.Kids {
		s += size(k)
	}
	return s
}

func (m *model) graft(parent, at int, n api.Node) (int, api.Errno) {
	p := m.find(parent)
	if p == nil {
		return 0, api.ErrNone
	}
	if p.tag == 0 {
		return 0, api.ErrKind
	}
	if at < 0 || at > len(p.kids) || !every(n, mayBe) {
		return 0, api.ErrArg
	}
	if !every(n, func(n api.Node) bool { return !tooLong(n.Text) }) {
		return 0, api.ErrLong
	}
	if p.depth()+1+height(n) > m.depth {
		return 0, api.ErrDeep
	}
	if len(m.all)+size(n) > m.capacity {
		return 0, api.ErrFull
	}
	k := m.grow(n)
	p.put(at, k)
	return k.id, api.OK
}

func (m *model) grow(n api.Node) *part {
	id, _ := m.add(n.Tag, n.Text, n.Attrs)
	p := m.find(id)
	for _, k := range n.Kids {
		q := m.grow(k)
		p.put(len(p.kids), q)
	}
	return p
}

func (m *model) copy() *model {
	c := &model{capacity: m.capacity, depth: m.depth, all: map[int]*part{}}
	for id, p := range m.all {
		c.all[id] = &part{id: p.id, tag: p.tag, text: p.text, attrs: p.attrs}
	}
	for id, p := range m.all {
		for i, k := range p.kids {
			c.all[id].put(i, c.all[k.id])
		}
	}
	return c
}

// far are numbers far from those of nodes.
var far = []int{math.MinInt, math.MinInt + 1, -1 << 32, -1 << 31, -2001, 2000, 2001, 1 << 31, 1 << 32, math.MaxInt - 1, math.MaxInt}

func samePlain(a, b api.Node) bool {
	return a.Tag == b.Tag && a.Text == b.Text && slices.Equal(a.Attrs, b.Attrs) && slices.EqualFunc(a.Kids, b.Kids, samePlain)
}

// unlike tells what a tree says otherwise than the model, if it does so of a number from -2 on to two above the capacity.
func unlike(t *dom.Tree, m *model) string {
	capacity, depth := t.Room()
	if capacity != m.capacity || depth != m.depth {
		return "Room"
	}
	if t.Count() != len(m.all) {
		return "Count"
	}
	for id := -2; id < m.capacity+2; id++ {
		if s := unlikeAt(t, m, id); s != "" {
			return s
		}
	}
	return ""
}

func unlikeAt(t *dom.Tree, m *model, id int) string {
	p := m.find(id)
	if p == nil {
		return nothingAt(t, id)
	}
	parent, index, root := -1, -1, p
	if p.up != nil {
		parent, index = p.up.id, slices.Index(p.up.kids, p)
	}
	for root.up != nil {
		root = root.up
	}
	sameKid := func(id int, k *part) bool { return id == k.id }
	switch {
	case !t.Has(id):
		return "Has"
	case t.Tag(id) != p.tag:
		return "Tag"
	case !slices.Equal(t.Attrs(id), p.attrs):
		return "Attrs"
	case t.Told(id) != p.text:
		return "Told"
	case !slices.EqualFunc(t.Kids(id), p.kids, sameKid):
		return "Kids"
	case t.Parent(id) != parent:
		return "Parent"
	case t.Index(id) != index:
		return "Index"
	case t.Depth(id) != p.depth():
		return "Depth"
	case t.Height(id) != p.height():
		return "Height"
	case t.Live(id) != (root.id == 0):
		return "Live"
	case !samePlain(t.Plain(id), p.plain()):
		return "Plain"
	}
	return ""
}

// nothingAt tells what a tree says of a number as if it were a node's.
func nothingAt(t *dom.Tree, id int) string {
	switch {
	case t.Has(id):
		return "Has of no node"
	case t.Tag(id) != -1:
		return "Tag of no node"
	case len(t.Attrs(id)) > 0:
		return "Attrs of no node"
	case t.Told(id) != "":
		return "Told of no node"
	case len(t.Kids(id)) > 0:
		return "Kids of no node"
	case t.Parent(id) != -1:
		return "Parent of no node"
	case t.Index(id) != -1:
		return "Index of no node"
	case t.Depth(id) != -1:
		return "Depth of no node"
	case t.Height(id) != -1:
		return "Height of no node"
	case t.Live(id):
		return "Live of no node"
	case !samePlain(t.Plain(id), api.Node{}):
		return "Plain of no node"
	}
	return ""
}
