package syntax_test

import (
	"math"
	"testing"

	"waxwork/api"
	"waxwork/class"
	"waxwork/runes"
	"waxwork/syntax"
)

// one is a node of the runes from low to high.
func one(low, high rune) syntax.Node {
	return syntax.Node{Kind: syntax.One, Class: class.Class{{Low: low, High: high}}}
}

// of is a node of a kind and its kids.
func of(kind int, kids ...syntax.Node) syntax.Node {
	return syntax.Node{Kind: kind, Kids: kids}
}

// often is a node of what is repeated.
func often(least, most int, kids ...syntax.Node) syntax.Node {
	return syntax.Node{Kind: syntax.Repeat, Min: least, Max: most, Kids: kids}
}

// group is a node of a group.
func group(number int, kids ...syntax.Node) syntax.Node {
	return syntax.Node{Kind: syntax.Group, Group: number, Kids: kids}
}

// a is the shortest node that is something.
func a() syntax.Node {
	return one('a', 'a')
}

// single makes many Ranges of one rune each, with one rune between.
func single(many int) class.Class {
	var out class.Class
	for i := range many {
		out = append(out, class.Range{Low: rune(2 * i), High: rune(2 * i)})
	}
	return out
}

// deep is n as the only kid of so many repeated ones, each within the next.
func deep(n syntax.Node, many int) syntax.Node {
	for range many {
		n = often(0, -1, n)
	}
	return n
}

// The chapter's numbers.
func TestConstants(t *testing.T) {
	for want, kind := range []int{syntax.Empty, syntax.One, syntax.Begin, syntax.End, syntax.Edge, syntax.Inner, syntax.Cat, syntax.Alt, syntax.Repeat, syntax.Group} {
		if kind != want {
			t.Errorf("kind %d is %d", want, kind)
		}
	}
}

// P5.1: Same asks each field, of all nodes.
func TestSame(t *testing.T) {
	full := syntax.Node{Kind: syntax.Group, Class: class.Class{{Low: 1, High: 2}}, Min: 3, Max: 4, Lazy: true, Group: 5, Kids: []syntax.Node{a(), of(syntax.Begin)}}
	other := []func(n *syntax.Node){
		func(n *syntax.Node) { n.Kind = syntax.Cat },
		func(n *syntax.Node) { n.Class = nil },
		func(n *syntax.Node) { n.Class = class.Class{{Low: 1, High: 3}} },
		func(n *syntax.Node) { n.Class = class.Class{{Low: 1, High: 1}, {Low: 2, High: 2}} },
		func(n *syntax.Node) { n.Min = 4 },
		func(n *syntax.Node) { n.Max = -1 },
		func(n *syntax.Node) { n.Lazy = false },
		func(n *syntax.Node) { n.Group = 6 },
		func(n *syntax.Node) { n.Kids = nil },
		func(n *syntax.Node) { n.Kids = []syntax.Node{a()} },
		func(n *syntax.Node) { n.Kids = []syntax.Node{of(syntax.Begin), a()} },
		func(n *syntax.Node) { n.Kids = []syntax.Node{a(), of(syntax.End)} },
		func(n *syntax.Node) { n.Kids = []syntax.Node{a(), of(syntax.Begin), a()} },
	}
	for i, change := range other {
		n := full
		change(&n)
		for _, pair := range [][2]syntax.Node{{full, n}, {n, full}, {deep(full, 3), deep(n, 3)}, {of(syntax.Cat, a(), full), of(syntax.Cat, a(), n)}} {
			if syntax.Same(pair[0], pair[1]) {
				t.Errorf("change %d: %s is the same as %s", i, show(pair[0]), show(pair[1]))
			}
		}
		if !syntax.Same(n, n) {
			t.Errorf("change %d: %s is not the same", i, show(n))
		}
	}
	none := syntax.Node{Class: class.Class{}, Kids: []syntax.Node{}}
	if !syntax.Same(none, syntax.Node{}) || !syntax.Same(syntax.Node{}, none) {
		t.Error("a list of nothing is not the same as none")
	}
}

// P5.1: Size and Groups of any nodes, such as may not be too.
func TestSizeAndGroups(t *testing.T) {
	for _, c := range []struct {
		n            syntax.Node
		size, groups int
	}{
		{syntax.Node{}, 1, 0},
		{a(), 1, 0},
		{of(syntax.Cat, a(), a()), 3, 0},
		{group(1, a()), 2, 1},
		{group(8, a()), 2, 8},
		{group(2, group(1, a())), 3, 2},
		{of(syntax.Cat, group(3, a()), group(2, group(7, a())), group(1, a())), 8, 7},
		{often(0, -1, of(syntax.Alt, group(1, a()), group(2, a()), syntax.Node{})), 7, 2},
		{group(-3), 1, 0},
		{group(-3, group(-1)), 2, 0},
		{group(-3, a()), 2, 0},
		{of(syntax.Cat, group(-3), group(math.MinInt)), 3, 0},
		{group(math.MaxInt, group(math.MinInt)), 2, math.MaxInt},
		{syntax.Node{Kind: syntax.One, Group: 4, Kids: []syntax.Node{{Kind: 99, Group: 6}}}, 2, 6}, // of whatever kind
		{deep(group(5), 50), 51, 5},
	} {
		if got := syntax.Size(c.n); got != c.size {
			t.Errorf("Size of %s is %d, not %d", show(c.n), got, c.size)
		}
		if got := syntax.Groups(c.n); got != c.groups {
			t.Errorf("Groups of %s is %d, not %d", show(c.n), got, c.groups)
		}
	}
}

// P5.1: nodes that may be, at each edge that the chapter names.
func TestRight(t *testing.T) {
	for _, n := range []syntax.Node{
		{},
		{Class: class.Class{}, Kids: []syntax.Node{}},
		a(), one(0, 0), one(0, runes.Most), one(0xd800, 0xdfff),
		{Kind: syntax.One, Class: single(api.MaxRanges)},
		of(syntax.Begin), of(syntax.End), of(syntax.Edge), of(syntax.Inner),
		of(syntax.Cat, a(), a()), of(syntax.Cat, a(), a(), a()), of(syntax.Alt, a(), a()),
		of(syntax.Cat, syntax.Node{}, of(syntax.Cat, a(), a())), // not in normal form, but right
		of(syntax.Alt, of(syntax.Alt, a(), a()), syntax.Node{}),
		often(0, 0, a()), often(0, -1, a()), often(0, 20, a()), often(1, 1, a()), often(3, 5, a()),
		often(20, 20, a()), often(20, -1, a()), often(0, 1, often(0, 1, syntax.Node{})),
		{Kind: syntax.Repeat, Min: 2, Max: 3, Lazy: true, Kids: []syntax.Node{a()}},
		group(1, a()), group(8, syntax.Node{}), group(3, group(3, a())),
	} {
		if !syntax.Right(n) || !syntax.Right(deep(n, 2)) || !syntax.Right(of(syntax.Alt, a(), n)) {
			t.Errorf("%s is not right", show(n))
		}
	}
}

// right is a node of that kind that may be.
func right(kind int) syntax.Node {
	switch kind {
	case syntax.One:
		return a()
	case syntax.Repeat:
		return often(0, -1, a())
	case syntax.Group:
		return group(1, a())
	case syntax.Cat, syntax.Alt:
		return of(kind, a(), a())
	}
	return of(kind)
}

// misfit are right nodes of all kinds, each with one thing that its kind has
// not.
func misfit() []syntax.Node {
	var out []syntax.Node
	change := func(kind, but int, by func(n *syntax.Node)) {
		if n := right(kind); kind != but {
			by(&n)
			out = append(out, n)
		}
	}
	for kind := range 10 {
		change(kind, syntax.One, func(n *syntax.Node) { n.Class = a().Class })
		change(kind, syntax.Repeat, func(n *syntax.Node) { n.Min = 1 })
		change(kind, syntax.Repeat, func(n *syntax.Node) { n.Min, n.Max = 1, 1 })
		change(kind, syntax.Repeat, func(n *syntax.Node) { n.Max = -1 })
		change(kind, syntax.Repeat, func(n *syntax.Node) { n.Lazy = true })
		change(kind, syntax.Group, func(n *syntax.Node) { n.Group = 1 })
		change(kind, syntax.Group, func(n *syntax.Node) { n.Group = -1 })
		change(kind, -1, func(n *syntax.Node) { n.Kids = append(n.Kids, of(10)) })
		if kind != syntax.Cat && kind != syntax.Alt {
			change(kind, -1, func(n *syntax.Node) { n.Kids = append(n.Kids, a()) })
			change(kind, -1, func(n *syntax.Node) { n.Kids = append(n.Kids, a(), a()) })
		}
	}
	return out
}

// wrong are nodes that may not be, each for one thing.
func wrong() []syntax.Node {
	return append(misfit(), []syntax.Node{
		{Kind: -1}, {Kind: 10}, {Kind: math.MinInt}, {Kind: math.MaxInt},
		of(syntax.One), one(2, 1), one(-1, 1), one(5, runes.Most+1),
		{Kind: syntax.One, Class: single(api.MaxRanges + 1)},
		{Kind: syntax.One, Class: class.Class{{Low: 1, High: 2}, {Low: 3, High: 4}}}, // touching
		{Kind: syntax.One, Class: class.Class{{Low: 5, High: 6}, {Low: 1, High: 2}}}, // falling
		of(syntax.Cat), of(syntax.Cat, a()), of(syntax.Alt), of(syntax.Alt, a()),
		often(0, 1), often(0, 1, a(), a()), group(1), group(1, a(), a()),
		often(-1, 3, a()), often(-1, -1, a()), often(0, -2, a()), often(0, 21, a()), often(21, -1, a()),
		often(21, 21, a()), often(2, 1, a()), often(1, 0, a()), often(0, math.MinInt, a()), often(math.MaxInt, math.MaxInt, a()),
		group(0, a()), group(9, a()), group(-1, a()), group(math.MaxInt, a()),
	}...)
}

// P5.1: nodes that may not be, and what has one of them at whatever depth.
func TestWrong(t *testing.T) {
	for kind := range 10 {
		if !syntax.Right(right(kind)) {
			t.Errorf("%s is not right", show(right(kind)))
		}
	}
	for _, n := range wrong() {
		for _, whole := range []syntax.Node{n, deep(n, 3), group(1, n), of(syntax.Cat, n, a()), of(syntax.Cat, a(), n), of(syntax.Alt, a(), a(), n)} {
			if syntax.Right(whole) {
				t.Errorf("%s is right", show(whole))
			}
		}
	}
}

// P1 of the whole: every call ends, of nodes as deep as they may stand, and of
// whatever nodes.
func TestDeep(t *testing.T) {
	const many = 100000
	n := deep(group(7, a()), many-2)
	if !syntax.Right(n) || syntax.Size(n) != many || syntax.Groups(n) != 7 || !syntax.Same(n, n) {
		t.Error("what is deep is not what it is")
	}
	if syntax.Right(deep(group(9, a()), many-2)) || syntax.Same(n, deep(group(6, a()), many-2)) {
		t.Error("what is deepest is not asked")
	}
	if got := len(syntax.Put(n)); got != len("(a)*")+(many-3)*len("(?:)*") {
		t.Errorf("Put has %d bytes", got)
	}
}

// P3 of the whole: nothing that is handed in is written into, nor what stands
// behind it in its array.
func TestHandedIn(t *testing.T) {
	ranges := class.Class{{Low: 'a', High: 'b'}, {Low: 'x', High: 'x'}, {Low: 9, High: 1}}
	kids := []syntax.Node{{Kind: syntax.One, Class: ranges[:2]}, often(1, 2, a()), {}, of(syntax.Alt, a(), a()), a()}
	before := show(of(syntax.Cat, kids...)) + class.Put(ranges)
	for kind := range 11 {
		for end := range len(kids) + 1 {
			n := syntax.Node{Kind: kind, Class: ranges[:end%3], Kids: kids[:end]}
			syntax.Put(n)
			syntax.Right(n)
			syntax.Same(n, n)
			syntax.Size(n)
			syntax.Groups(n)
		}
	}
	if got := show(of(syntax.Cat, kids...)) + class.Put(ranges); got != before {
		t.Errorf("handed in was %s, is %s", before, got)
	}
}
