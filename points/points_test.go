package points_test

import (
	"math"
	"testing"

	"quillwork/points"
)

// carried tests a call by a model: for each place of the tree the call answers where the change of its rows carries the mark.
func carried(t *testing.T, ahead rows, change func(r rows), call func(p place) place) {
	t.Helper()
	for _, p := range ahead.places() {
		r := ahead.marked(p)
		change(r)
		if got, want := call(p), r.place(t); got != want {
			t.Fatalf("%v in %v, which becomes %v: got %v, want %v", p, ahead, r, got, want)
		}
	}
}

func TestP10_1Inserted(t *testing.T) {
	for _, name := range namings() {
		for kids := range 4 {
			for at := range kids + 1 {
				for n := range 4 {
					change := func(r rows) { r.insert(name(0), at, fill(n)...) }
					carried(t, tree(name, kids, 0, 0), change, func(p place) place {
						return points.Inserted(p, name(0), at, n)
					})
				}
			}
		}
	}
}

func TestP10_1InsertedWithin(t *testing.T) {
	for _, name := range namings() {
		for at := range 4 {
			change := func(r rows) { r.insert(name(2), at, fill(1)...) }
			carried(t, tree(name, 3, 2, 2), change, func(p place) place {
				return points.Inserted(p, name(2), at, 1)
			})
		}
	}
}

// wantRemoved tells by the model itself whether the place is inside.
func wantRemoved(t *testing.T, ahead rows, parent, at int) {
	t.Helper()
	for _, p := range ahead.places() {
		r := ahead.marked(p)
		inside := r.remove(parent, at)
		if got, want := points.Removed(p, parent, at, inside), r.place(t); got != want {
			t.Fatalf("Removed(%v, %d, %d, %t) in %v = %v, want %v", p, parent, at, inside, ahead, got, want)
		}
	}
}

func TestP10_2Removed(t *testing.T) {
	for _, name := range namings() {
		for kids := 1; kids < 5; kids++ {
			for at := range kids {
				wantRemoved(t, tree(name, kids, 1, 2), name(0), at)
			}
		}
		for at := range 3 {
			wantRemoved(t, tree(name, 3, 2, 2), name(2), at)
		}
	}
}

func TestP10_2RemovedInside(t *testing.T) {
	for _, p := range []place{spot(7, 9), spot(7, 0), spot(5, 1), spot(5, 2), spot(5, 9), spot(0, 0)} {
		if got := points.Removed(p, 5, 2, true); got != spot(5, 2) {
			t.Errorf("Removed(%v, 5, 2, true) = %v", p, got)
		}
	}
}

func TestP10_3Replaced(t *testing.T) {
	for _, name := range namings() {
		for length := range 6 {
			for at := range length + 1 {
				for count := range length - at + 1 {
					for n := range 4 {
						change := func(r rows) { r.replace(name(11), at, count, fill(n)...) }
						carried(t, texts(name, 2, length, 3), change, func(p place) place {
							return points.Replaced(p, name(11), at, count, n)
						})
					}
				}
			}
		}
	}
}

func TestP10_4SplitText(t *testing.T) {
	for _, name := range namings() {
		for index := range 3 {
			for at := range 5 {
				id := name(10 + index)
				change := func(r rows) {
					r.split(id, at, name(8))
					r.beside(name(1), index, name(8))
				}
				carried(t, texts(name, 4, 4, 4), change, func(p place) place {
					return points.SplitText(p, id, at, name(8), name(1), index)
				})
			}
		}
	}
}

func TestP10_4SplitTextWithoutParent(t *testing.T) {
	for _, name := range namings() {
		for _, index := range []int{-1, 0, 1} {
			for at := range 5 {
				change := func(r rows) { r.split(name(9), at, name(8)) }
				carried(t, texts(name, 4, 2), change, func(p place) place {
					return points.SplitText(p, name(9), at, name(8), -1, index)
				})
			}
		}
	}
	for at := -1; at < 4; at++ {
		p := spot(-1, at)
		if got := points.SplitText(p, 4, 2, 9, -1, 0); got != p {
			t.Errorf("there is no parent, but %v becomes %v", p, got)
		}
	}
}

func TestP10_5JoinText(t *testing.T) {
	for _, name := range namings() {
		for index := 1; index < 4; index++ {
			for _, lengths := range [][]int{{3, 3, 3, 3}, {0, 2, 0, 1}, {1, 0, 2, 0}, {0, 0, 0, 0}} {
				id, other := name(9+index), name(10+index)
				change := func(r rows) { r.join(id, other, name(1), index) }
				carried(t, texts(name, lengths...), change, func(p place) place {
					return points.JoinText(p, id, other, lengths[index-1], name(1), index)
				})
			}
		}
	}
}

func TestP10_6Split(t *testing.T) {
	for _, name := range namings() {
		for id := 1; id < 4; id++ {
			for more := range 4 {
				for at := range more + 2 {
					change := func(r rows) {
						r.split(name(id), at, name(29))
						r.beside(name(0), id-1, name(29))
					}
					carried(t, tree(name, 3, id, more), change, func(p place) place {
						return points.Split(p, name(id), at, name(29), name(0), id-1)
					})
				}
			}
		}
	}
}

func TestP10_7Wrapped(t *testing.T) {
	for _, name := range namings() {
		for kids := range 6 {
			for at := range kids + 1 {
				for n := range kids - at + 1 {
					change := func(r rows) { r.wrap(name(0), at, n, name(29)) }
					carried(t, tree(name, kids, 0, 0), change, func(p place) place {
						return points.Wrapped(p, name(0), at, n, name(29))
					})
				}
			}
		}
	}
}

func TestP10_8Unwrapped(t *testing.T) {
	for _, name := range namings() {
		for id := 1; id < 4; id++ {
			for more := range 4 {
				change := func(r rows) { r.unwrap(name(id), name(0), id-1) }
				carried(t, tree(name, 3, id, more), change, func(p place) place {
					return points.Unwrapped(p, name(id), more+1, name(0), id-1)
				})
			}
		}
		bare := rows{name(0): {name(1), name(2), name(3)}, name(1): nil, name(2): nil, name(3): nil}
		change := func(r rows) { r.unwrap(name(2), name(0), 1) }
		carried(t, bare, change, func(p place) place { return points.Unwrapped(p, name(2), 0, name(0), 1) })
	}
}

func TestP10_9Moved(t *testing.T) {
	for _, name := range namings() {
		for kids := 1; kids < 5; kids++ {
			for at := range kids {
				for index := range kids {
					change := func(r rows) { r.move(name(0), at, name(0), index) }
					carried(t, tree(name, kids, 0, 0), change, func(p place) place {
						return points.Moved(p, name(0), at, name(0), index)
					})
				}
			}
		}
	}
}

func TestP10_9MovedToAnother(t *testing.T) {
	for _, name := range namings() {
		for at := range 4 {
			for index := range 5 {
				change := func(r rows) { r.move(name(1), at, name(0), index) }
				carried(t, tree(name, 4, 1, 3), change, func(p place) place {
					return points.Moved(p, name(1), at, name(0), index)
				})
			}
		}
		for _, at := range []int{0, 2, 3} {
			for index := range 4 {
				change := func(r rows) { r.move(name(0), at, name(2), index) }
				carried(t, tree(name, 4, 2, 2), change, func(p place) place {
					return points.Moved(p, name(0), at, name(2), index)
				})
			}
		}
	}
}

// call is one of the calls, with the numbers that are handed in beside the place; these move the place from.
type call struct {
	name     string
	from, to place
	numbers  []int
	do       func(p place, n []int) place
}

func calls() []call {
	inside := func(p place, n []int) place { return points.Removed(p, n[0], n[1], true) }
	outside := func(p place, n []int) place { return points.Removed(p, n[0], n[1], false) }
	return []call{
		{"Inserted", spot(5, 2), spot(5, 5), []int{5, 1, 3}, func(p place, n []int) place { return points.Inserted(p, n[0], n[1], n[2]) }},
		{"Removed inside", spot(7, 9), spot(5, 2), []int{5, 2}, inside},
		{"Removed", spot(5, 3), spot(5, 2), []int{5, 2}, outside},
		{"Replaced", spot(4, 6), spot(4, 4), []int{4, 2, 3, 1}, func(p place, n []int) place { return points.Replaced(p, n[0], n[1], n[2], n[3]) }},
		{"SplitText", spot(4, 6), spot(9, 4), []int{4, 2, 9, 5, 0}, func(p place, n []int) place { return points.SplitText(p, n[0], n[1], n[2], n[3], n[4]) }},
		{"JoinText", spot(9, 4), spot(4, 6), []int{4, 9, 2, 5, 1}, func(p place, n []int) place { return points.JoinText(p, n[0], n[1], n[2], n[3], n[4]) }},
		{"Split", spot(4, 6), spot(9, 4), []int{4, 2, 9, 5, 0}, func(p place, n []int) place { return points.Split(p, n[0], n[1], n[2], n[3], n[4]) }},
		{"Wrapped", spot(5, 2), spot(9, 1), []int{5, 1, 3, 9}, func(p place, n []int) place { return points.Wrapped(p, n[0], n[1], n[2], n[3]) }},
		{"Unwrapped", spot(9, 1), spot(5, 2), []int{9, 3, 5, 1}, func(p place, n []int) place { return points.Unwrapped(p, n[0], n[1], n[2], n[3]) }},
		{"Moved", spot(5, 4), spot(5, 3), []int{5, 2, 6, 1}, func(p place, n []int) place { return points.Moved(p, n[0], n[1], n[2], n[3]) }},
		{"Moved to", spot(5, 4), spot(5, 5), []int{6, 1, 5, 2}, func(p place, n []int) place { return points.Moved(p, n[0], n[1], n[2], n[3]) }},
	}
}

// far are numbers below -1 and above 2^30, also such as look like small ones in 32 bits or less.
var far = []int{-2, -3, -5, -1 << 16, -1 << 30, -1<<30 - 1, -1 << 31, -1<<31 - 1, -1 << 32, math.MinInt, math.MinInt + 1, math.MinInt + 5, 1<<30 + 1, 1<<30 + 2, 1<<31 - 1, 1 << 31, 1 << 32, 1<<32 + 1, 1<<32 + 2, 1<<32 + 4, 1<<32 + 5, 1<<32 + 9, 1<<62 + 5, math.MaxInt - 1, math.MaxInt}

// near are places in all nodes that the calls are handed, and around what these tell of them.
func near() []place {
	var l []place
	for node := -1; node < 11; node++ {
		for at := -1; at < 11; at++ {
			l = append(l, spot(node, at))
		}
	}
	return l
}

func TestFarNumbersLeaveThePlaceAsItIs(t *testing.T) {
	for _, c := range calls() {
		if got := c.do(c.from, c.numbers); got != c.to {
			t.Errorf("%s: %v becomes %v by %v, want %v", c.name, c.from, got, c.numbers, c.to)
		}
		for i, was := range c.numbers {
			for _, n := range far {
				c.numbers[i] = n
				for _, p := range append(near(), c.from) {
					if got := c.do(p, c.numbers); got != p {
						t.Errorf("%s: %v becomes %v by %v", c.name, p, got, c.numbers)
					}
				}
			}
			c.numbers[i] = was
		}
	}
}

// TestFarPlacesStayAsTheyAre has the place in each node that is handed in, and in none of them.
func TestFarPlacesStayAsTheyAre(t *testing.T) {
	for _, c := range calls() {
		for _, n := range far {
			for _, near := range append([]int{-1, 0, 1 << 30}, c.numbers...) {
				for _, p := range []place{spot(near, n), spot(n, near), spot(n, n)} {
					if got := c.do(p, c.numbers); got != p {
						t.Errorf("%s: %v becomes %v by %v", c.name, p, got, c.numbers)
					}
				}
			}
		}
	}
}

// TestFarNumbersOfPlacesInThem has the place in the far node that is handed in.
func TestFarNumbersOfPlacesInThem(t *testing.T) {
	for _, c := range calls() {
		for i, near := range c.numbers {
			for _, n := range far {
				c.numbers[i] = n
				for at := -1; at < 12; at++ {
					p := spot(n, at)
					if got := c.do(p, c.numbers); got != p {
						t.Errorf("%s: %v becomes %v by %v", c.name, p, got, c.numbers)
					}
				}
			}
			c.numbers[i] = near
		}
	}
}

// most is the greatest number that counts.
const most = 1 << 30

func TestNumbersAtTheBoundsCount(t *testing.T) {
	for i, c := range []struct{ got, want place }{
		{points.Inserted(spot(-1, most), -1, -1, most), spot(-1, 2*most)},
		{points.Inserted(spot(most, most), most, most-1, 1), spot(most, most+1)},
		{points.Inserted(spot(5, 2), 5, 1, -1), spot(5, 1)},
		{points.Inserted(spot(5, -1), 5, -1, 3), spot(5, -1)},
		{points.Removed(spot(-1, -1), most, -1, true), spot(most, -1)},
		{points.Removed(spot(most, most), -1, most, true), spot(-1, most)},
		{points.Removed(spot(-1, most), -1, most-1, false), spot(-1, most-1)},
		{points.Removed(spot(5, 0), 5, -1, false), spot(5, -1)},
		{points.Replaced(spot(most, most), most, -1, most, -1), spot(most, -1)},
		{points.Replaced(spot(4, most), 4, 0, 0, most), spot(4, 2*most)},
		{points.Replaced(spot(4, most), 4, most-1, most, 7), spot(4, most-1)},
		{points.Replaced(spot(4, 3), 4, 2, -1, 0), spot(4, 4)},
		{points.SplitText(spot(-1, most), -1, -1, most, 5, 0), spot(most, most+1)},
		{points.SplitText(spot(most, most), 4, 2, 9, most, most-1), spot(most, most+1)},
		{points.SplitText(spot(0, 3), 4, 2, 9, 0, 2), spot(0, 4)},
		{points.JoinText(spot(-1, most), 4, -1, most, 5, 1), spot(4, 2*most)},
		{points.JoinText(spot(-1, -1), most, 9, -1, -1, -1), spot(most, -1)},
		{points.JoinText(spot(most, most), 4, 9, 3, most, most-1), spot(most, most-1)},
		{points.Split(spot(-1, most), -1, -1, most, 5, 0), spot(most, most+1)},
		{points.Split(spot(-1, 1), 4, 2, 9, -1, 0), spot(-1, 2)},
		{points.Wrapped(spot(-1, most), -1, -1, most, 9), spot(-1, 1)},
		{points.Wrapped(spot(-1, most-2), -1, -1, most, most), spot(most, most-1)},
		{points.Wrapped(spot(most, most), most, most, most, 9), spot(most, most)},
		{points.Wrapped(spot(5, 3), 5, 3, -1, 9), spot(5, 5)},
		{points.Wrapped(spot(5, 2), 5, 3, -1, 9), spot(5, 4)},
		{points.Wrapped(spot(5, 1), 5, 3, -1, 9), spot(5, 1)},
		{points.Unwrapped(spot(-1, most), -1, 0, most, most), spot(most, 2*most)},
		{points.Unwrapped(spot(-1, most), 9, most, -1, -1), spot(-1, 2*most-1)},
		{points.Unwrapped(spot(5, 3), 9, -1, 5, 2), spot(5, 1)},
		{points.Moved(spot(-1, most), 5, 1, -1, -1), spot(-1, most+1)},
		{points.Moved(spot(most, most), most, -1, -1, 0), spot(most, most-1)},
		{points.Moved(spot(5, 0), 5, -1, 5, -1), spot(5, -1)},
	} {
		if c.got != c.want {
			t.Errorf("row %d: got %v, want %v", i, c.got, c.want)
		}
	}
}

// sentence is one of a promise's: whether it tells of a place, and what becomes of that.
type sentence struct {
	of      bool
	becomes place
}

// told is what the first of the sentences says that tells of the place.
func told(p place, promise ...sentence) place {
	for _, s := range promise {
		if s.of {
			return s.becomes
		}
	}
	return p
}

// byWords are the promises' sentences, one by one.
func byWords(name string, p place, n []int) place {
	in := func(node int) bool { return p.Node == node }
	above := func(node, at int) bool { return p.Node == node && p.At > at }
	by := func(more int) place { return spot(p.Node, p.At+more) }
	switch name {
	case "Inserted":
		return told(p, sentence{above(n[0], n[1]), by(n[2])})
	case "Removed inside":
		return spot(n[0], n[1])
	case "Removed":
		return told(p, sentence{above(n[0], n[1]), by(-1)})
	case "Replaced":
		return told(p, sentence{above(n[0], n[1]) && p.At > n[1]+n[2], by(n[3] - n[2])}, sentence{above(n[0], n[1]), spot(n[0], n[1])})
	case "SplitText":
		return told(p, sentence{above(n[0], n[1]), spot(n[2], p.At-n[1])}, sentence{n[3] >= 0 && above(n[3], n[4]), by(1)})
	case "JoinText":
		return told(p, sentence{in(n[1]), spot(n[0], p.At+n[2])}, sentence{p == spot(n[3], n[4]), spot(n[0], n[2])}, sentence{above(n[3], n[4]), by(-1)})
	case "Split":
		return told(p, sentence{above(n[0], n[1]), spot(n[2], p.At-n[1])}, sentence{above(n[3], n[4]), by(1)})
	case "Wrapped":
		within := in(n[0]) && p.At >= n[1]+1 && p.At <= n[1]+n[2]-1
		return told(p, sentence{within, spot(n[3], p.At-n[1])}, sentence{in(n[0]) && p.At >= n[1]+n[2], by(1 - n[2])})
	case "Unwrapped":
		return told(p, sentence{in(n[0]), spot(n[2], n[3]+p.At)}, sentence{above(n[2], n[3]), by(n[1] - 1)})
	}
	gone := byWords("Removed", p, n[:2])
	return byWords("Inserted", gone, append(n[2:4:4], 1))
}

// each hands on all rows of so many of the numbers.
func each(of []int, count int, do func(row []int)) {
	row := make([]int, count)
	var from func(i int)
	from = func(i int) {
		if i == count {
			do(row)
			return
		}
		for _, n := range of {
			row[i] = n
			from(i + 1)
		}
	}
	from(0)
}

func TestByTheWords(t *testing.T) {
	for _, c := range calls() {
		for _, of := range [][]int{{-1, 0, 1, 2, 3}, {-1, 0, 1, most - 1, most}} {
			each(of, 2+len(c.numbers), func(row []int) {
				p, n := spot(row[0], row[1]), row[2:]
				if got, want := c.do(p, n), byWords(c.name, p, n); got != want {
					t.Fatalf("%s of %v and %v: got %v, want %v", c.name, p, n, got, want)
				}
			})
		}
	}
}

// ats are numbers that may be a place's At, and stay such if it is some more.
var ats = []int{0, 1, 2, 3, 4, 5, 6, 7, 100, 8191, 8192, most - 9, most - 8}

// all hands on places in some nodes, and beside each two numbers.
func all(do func(p place, at, n int)) {
	for _, node := range []int{0, 4, 5, 7, most} {
		each(ats, 3, func(row []int) { do(spot(node, row[0]), row[1], row[2]) })
	}
}

func wantBack(t *testing.T, p, on, back place, numbers ...int) {
	t.Helper()
	if back != p {
		t.Fatalf("%v is %v, and then %v, by %v", p, on, back, numbers)
	}
}

func TestP10_10InsertedAndRemoved(t *testing.T) {
	all(func(p place, at, _ int) {
		on := points.Inserted(p, 5, at, 1)
		wantBack(t, p, on, points.Removed(on, 5, at, false), at)
		wantBack(t, spot(5, at), on, points.Removed(spot(9, 1), 5, at, true), at)
	})
}

func TestP10_10WrappedAndUnwrapped(t *testing.T) {
	all(func(p place, at, n int) {
		on := points.Wrapped(p, 5, at, n, 9)
		wantBack(t, p, on, points.Unwrapped(on, 9, n, 5, at), at, n)
	})
}

func TestP10_10SplitTextAndJoinText(t *testing.T) {
	all(func(p place, at, index int) {
		on := points.SplitText(p, 4, at, 9, 5, index)
		wantBack(t, p, on, points.JoinText(on, 4, 9, at, 5, index+1), at, index)
		between := spot(5, index+1)
		wantBack(t, spot(4, at), between, points.JoinText(between, 4, 9, at, 5, index+1), at, index)
	})
}

// wantMovedBack wants the place back, but for the one that stood just behind the kid.
func wantMovedBack(t *testing.T, p place, from, at, to, index int) {
	t.Helper()
	on := points.Moved(p, from, at, to, index)
	back := points.Moved(on, to, index, from, at)
	if p == spot(from, at+1) {
		p.At--
	}
	wantBack(t, p, on, back, from, at, to, index)
}

func TestP10_11MovedOnAndBack(t *testing.T) {
	all(func(p place, at, index int) {
		wantMovedBack(t, p, 5, at, 5, index)
		wantMovedBack(t, p, 5, at, 7, index)
		wantMovedBack(t, p, 7, at, 5, index)
		wantMovedBack(t, p, 8, at, 9, index)
	})
}

func TestExamples(t *testing.T) {
	for name, c := range map[string]struct{ got, want place }{
		"Inserted above":        {points.Inserted(spot(5, 2), 5, 1, 3), spot(5, 5)},
		"Inserted at":           {points.Inserted(spot(5, 1), 5, 1, 3), spot(5, 1)},
		"Removed inside":        {points.Removed(spot(7, 9), 5, 2, true), spot(5, 2)},
		"Removed above":         {points.Removed(spot(5, 3), 5, 2, false), spot(5, 2)},
		"Replaced behind":       {points.Replaced(spot(4, 6), 4, 2, 3, 1), spot(4, 4)},
		"Replaced within":       {points.Replaced(spot(4, 4), 4, 2, 3, 1), spot(4, 2)},
		"SplitText in the text": {points.SplitText(spot(4, 6), 4, 2, 9, 5, 0), spot(9, 4)},
		"SplitText in parent":   {points.SplitText(spot(5, 1), 4, 2, 9, 5, 0), spot(5, 2)},
		"Wrapped within":        {points.Wrapped(spot(5, 2), 5, 1, 3, 9), spot(9, 1)},
		"Wrapped at the end":    {points.Wrapped(spot(5, 4), 5, 1, 3, 9), spot(5, 2)},
	} {
		if c.got != c.want {
			t.Errorf("%s: got %v, want %v", name, c.got, c.want)
		}
	}
}
