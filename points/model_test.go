package points_test

import (
	"maps"
	"slices"
	"testing"

	"quillwork/api"
)

type place = api.Place

func spot(node, at int) place { return place{Node: node, At: at} }

// mark stands in a row where a place is; it is none of the row's items.
const mark = -9

// rows are a tree's nodes by their numbers, each with its kids' numbers, or its characters. A place is a mark in one of them, which the changes carry along.
type rows map[int][]int

func (r rows) copied() rows {
	c := maps.Clone(r)
	for id := range c {
		c[id] = slices.Clone(c[id])
	}
	return c
}

func (r rows) marked(p place) rows {
	c := r.copied()
	c[p.Node] = slices.Insert(c[p.Node], p.At, mark)
	return c
}

func (r rows) place(t *testing.T) place {
	t.Helper()
	for id, row := range r {
		if at := slices.Index(row, mark); at >= 0 {
			return spot(id, at)
		}
	}
	t.Fatalf("no mark in %v", r)
	return place{}
}

// places are all of all nodes.
func (r rows) places() []place {
	var l []place
	for _, id := range slices.Sorted(maps.Keys(r)) {
		for at := range len(r[id]) + 1 {
			l = append(l, spot(id, at))
		}
	}
	return l
}

// ahead is where a row's gap ahead of its at-th item begins; a mark in the gap is behind that, and ahead of the gap's end.
func (r rows) ahead(id, at int) int {
	for i, item := range r[id] {
		if at == 0 {
			return i
		}
		if item != mark {
			at--
		}
	}
	return len(r[id])
}

func (r rows) behind(id, at int) int {
	i := r.ahead(id, at)
	if i < len(r[id]) && r[id][i] == mark {
		i++
	}
	return i
}

// insert puts the items behind a mark that is just there.
func (r rows) insert(id, at int, items ...int) {
	r[id] = slices.Insert(r[id], r.behind(id, at), items...)
}

// take takes the at-th item out; what is around it stays, also a mark.
func (r rows) take(id, at int) int {
	i := r.behind(id, at)
	item := r[id][i]
	r[id] = slices.Delete(r[id], i, i+1)
	return item
}

// remove leaves the mark where the kid was, if it is in that, or within.
func (r rows) remove(id, at int) (inside bool) {
	i := r.behind(id, at)
	kid := r.take(id, at)
	if inside = r.forget(kid); inside {
		r[id] = slices.Insert(r[id], i, mark)
	}
	return inside
}

func (r rows) forget(id int) (marked bool) {
	row := r[id]
	delete(r, id)
	marked = slices.Contains(row, mark)
	for _, kid := range row {
		if r.forget(kid) {
			marked = true
		}
	}
	return marked
}

func (r rows) replace(id, at, count int, items ...int) {
	for range count {
		r.take(id, at)
	}
	r.insert(id, at, items...)
}

// split leaves a mark that is just at the cut ahead of it.
func (r rows) split(id, at, fresh int) {
	cut := r.behind(id, at)
	r[fresh] = slices.Clone(r[id][cut:])
	r[id] = r[id][:cut]
}

// beside puts fresh just behind the index-th kid, ahead of a mark that is there.
func (r rows) beside(parent, index, fresh int) {
	r[parent] = slices.Insert(r[parent], r.ahead(parent, index+1), fresh)
}

// join has a mark that is between both at the end of what the first one had.
func (r rows) join(id, other, parent, index int) {
	gap := r.ahead(parent, index)
	if r[parent][gap] == mark {
		r[parent] = slices.Delete(r[parent], gap, gap+1)
		r[id] = append(r[id], mark)
	}
	r.take(parent, index)
	r[id] = append(r[id], r[other]...)
	delete(r, other)
}

// wrap leaves marks at the begin and at the end of what is wrapped outside.
func (r rows) wrap(parent, at, n, fresh int) {
	to := r.ahead(parent, at+n)
	from := min(r.behind(parent, at), to)
	r[fresh] = slices.Clone(r[parent][from:to])
	r[parent] = slices.Replace(r[parent], from, to, fresh)
}

func (r rows) unwrap(id, parent, index int) {
	i := r.behind(parent, index)
	r[parent] = slices.Replace(r[parent], i, i+1, r[id]...)
	delete(r, id)
}

func (r rows) move(from, at, to, index int) {
	r.insert(to, index, r.take(from, at))
}

// Trees are made of the numbers 0 to 29, of which each naming makes others.
func namings() []func(int) int {
	return []func(int) int{
		func(n int) int { return n },
		func(n int) int { return 1<<30 - n },
		func(n int) int { return (n*7 + 3) % 31 },
	}
}

// tree is a host 0 with some kids: the elements 1, 2 and so on, of which each has a text, 10 and more, and the one with number id has so many more elements, 20 and more; each text has three characters.
func tree(name func(int) int, kids, id, more int) rows {
	r := rows{name(0): nil}
	for kid := 1; kid <= kids; kid++ {
		r[name(0)] = append(r[name(0)], name(kid))
		r[name(kid)] = []int{name(kid + 10)}
		r[name(kid+10)] = []int{'x', 'y', 'z'}
	}
	for n := range more {
		r[name(id)] = append(r[name(id)], name(n+20))
		r[name(n+20)] = nil
	}
	return r
}

// texts is a host 0 with an element 1, whose kids are texts, 10 and more, of so many characters each, and a loose text 9 of four.
func texts(name func(int) int, lengths ...int) rows {
	r := rows{name(0): {name(1)}, name(1): nil, name(9): {'a', 'b', 'c', 'd'}}
	for i, length := range lengths {
		r[name(1)] = append(r[name(1)], name(10+i))
		r[name(10+i)] = slices.Repeat([]int{'x'}, length)
	}
	return r
}

// fill are so many items that no row has yet.
func fill(n int) []int { return slices.Repeat([]int{'n'}, n) }
