package simple_test

import (
	"math"
	"slices"
	"strings"
	"testing"

	"waxwork/api"
	"waxwork/class"
	"waxwork/simple"
	"waxwork/syntax"
)

// one is a node of r alone.
func one(r rune) syntax.Node {
	return syntax.Node{Kind: syntax.One, Class: class.Class{{Low: r, High: r}}}
}

// of is a node of a kind and its kids.
func of(kind int, kids ...syntax.Node) syntax.Node {
	return syntax.Node{Kind: kind, Kids: kids}
}

// often is a node of what is repeated.
func often(least, most int, kids ...syntax.Node) syntax.Node {
	return syntax.Node{Kind: syntax.Repeat, Min: least, Max: most, Kids: kids}
}

// lazy is n, as soon through as it may be.
func lazy(n syntax.Node) syntax.Node {
	n.Lazy = true
	return n
}

// group is a node of a group.
func group(number int, kids ...syntax.Node) syntax.Node {
	return syntax.Node{Kind: syntax.Group, Group: number, Kids: kids}
}

// many are so many of n.
func many(times int, n syntax.Node) []syntax.Node {
	return slices.Repeat([]syntax.Node{n}, times)
}

// deep is n as the only kid of so many groups, each within the next.
func deep(n syntax.Node, times int) syntax.Node {
	for range times {
		n = group(1, n)
	}
	return n
}

var a, b, c = one('a'), one('b'), one('c')

// P6.1: what is Empty is left out, and what is a Cat stands as its Kids, as
// they are: they may be Empty, or a Cat, themselves.
func TestSequence(t *testing.T) {
	empty, cat, alt := syntax.Node{}, of(syntax.Cat, a, b), of(syntax.Alt, a, b)
	for i, x := range []struct {
		l    []syntax.Node
		want syntax.Node
	}{
		{nil, empty},
		{[]syntax.Node{empty}, empty},
		{[]syntax.Node{empty, empty, empty}, empty},
		{[]syntax.Node{{Class: a.Class, Min: 1, Kids: []syntax.Node{a, b}}}, empty}, // of that kind, whatever it has
		{[]syntax.Node{a}, a},
		{[]syntax.Node{empty, a, empty}, a},
		{[]syntax.Node{cat}, cat},
		{[]syntax.Node{alt}, alt},
		{[]syntax.Node{alt, empty}, alt},
		{[]syntax.Node{a, b}, cat},
		{[]syntax.Node{b, a}, of(syntax.Cat, b, a)},
		{[]syntax.Node{a, a, a}, of(syntax.Cat, a, a, a)},
		{[]syntax.Node{a, empty, b}, cat},
		{[]syntax.Node{cat, c}, of(syntax.Cat, a, b, c)},
		{[]syntax.Node{c, cat, empty, cat}, of(syntax.Cat, c, a, b, a, b)},
		{[]syntax.Node{alt, alt}, of(syntax.Cat, alt, alt)},
		{[]syntax.Node{group(1, cat), often(2, 3, cat)}, of(syntax.Cat, group(1, cat), often(2, 3, cat))},
		{[]syntax.Node{of(syntax.Cat, empty, cat), c}, of(syntax.Cat, empty, cat, c)},
		{[]syntax.Node{of(syntax.Cat, empty, empty)}, of(syntax.Cat, empty, empty)},
		{[]syntax.Node{of(syntax.Cat, cat, cat)}, of(syntax.Cat, cat, cat)},
		// such as are not right
		{[]syntax.Node{of(syntax.Cat)}, empty},
		{[]syntax.Node{of(syntax.Cat), of(syntax.Cat)}, empty},
		{[]syntax.Node{of(syntax.Cat), a}, a},
		{[]syntax.Node{of(syntax.Cat, a)}, a},
		{[]syntax.Node{of(syntax.Cat, cat)}, cat},
		{[]syntax.Node{of(syntax.Cat, group(3))}, group(3)},
		{[]syntax.Node{of(syntax.Cat, a), of(syntax.Cat, b)}, cat},
		{[]syntax.Node{{Kind: syntax.Cat, Class: c.Class, Min: 3, Lazy: true, Group: 4, Kids: []syntax.Node{a, b}}}, cat},
		{[]syntax.Node{of(77), of(-1, a)}, of(syntax.Cat, of(77), of(-1, a))},
		{[]syntax.Node{of(math.MinInt)}, of(math.MinInt)},
	} {
		if got := simple.Sequence(x.l...); !syntax.Same(got, x.want) {
			t.Errorf("%d: Sequence is %s, not %s", i, show(got), show(x.want))
		}
	}
}

// P6.1: what is an Alt stands as its Kids, as they are, in a choice of more
// than one; what is Empty is one to choose.
func TestChoice(t *testing.T) {
	empty, cat, alt := syntax.Node{}, of(syntax.Cat, a, b), of(syntax.Alt, a, b)
	for i, x := range []struct {
		l    []syntax.Node
		want syntax.Node
	}{
		{nil, empty},
		{[]syntax.Node{empty}, empty},
		{[]syntax.Node{a}, a},
		{[]syntax.Node{cat}, cat},
		{[]syntax.Node{alt}, alt},
		{[]syntax.Node{a, b}, alt},
		{[]syntax.Node{b, a}, of(syntax.Alt, b, a)},
		{[]syntax.Node{a, a}, of(syntax.Alt, a, a)},
		{[]syntax.Node{empty, empty}, of(syntax.Alt, empty, empty)},
		{[]syntax.Node{a, empty, b}, of(syntax.Alt, a, empty, b)},
		{[]syntax.Node{alt, c}, of(syntax.Alt, a, b, c)},
		{[]syntax.Node{c, alt, empty, alt}, of(syntax.Alt, c, a, b, empty, a, b)},
		{[]syntax.Node{cat, cat}, of(syntax.Alt, cat, cat)},
		{[]syntax.Node{group(1, alt), often(2, 3, alt)}, of(syntax.Alt, group(1, alt), often(2, 3, alt))},
		{[]syntax.Node{of(syntax.Alt, alt, empty), c}, of(syntax.Alt, alt, empty, c)},
		{[]syntax.Node{of(syntax.Alt, alt, alt)}, of(syntax.Alt, alt, alt)},
		// such as are not right
		{[]syntax.Node{of(syntax.Alt)}, of(syntax.Alt)},
		{[]syntax.Node{of(syntax.Alt, a)}, of(syntax.Alt, a)},
		{[]syntax.Node{lazy(alt)}, lazy(alt)},
		{[]syntax.Node{lazy(alt), c}, of(syntax.Alt, a, b, c)},
		{[]syntax.Node{of(syntax.Alt), of(syntax.Alt)}, of(syntax.Alt)},
		{[]syntax.Node{of(syntax.Alt), a}, of(syntax.Alt, a)},
		{[]syntax.Node{of(77), of(-1, a)}, of(syntax.Alt, of(77), of(-1, a))},
	} {
		if got := simple.Choice(x.l...); !syntax.Same(got, x.want) {
			t.Errorf("%d: Choice is %s, not %s", i, show(got), show(x.want))
		}
	}
}

// P6.2: each Repeat, wherever it stands, is a star, a plus or an opt.
func TestIs(t *testing.T) {
	about := func(n syntax.Node) []syntax.Node {
		return []syntax.Node{n, group(1, n), of(syntax.Cat, n, a), of(syntax.Alt, a, b, n), often(0, -1, n), lazy(often(0, 1, of(syntax.Cat, a, group(8, n))))}
	}
	for least := range api.MaxRepeat + 1 {
		for most := -1; most <= api.MaxRepeat; most++ {
			want := least < 2 && most == -1 || least == 0 && most == 1
			for _, n := range append(about(often(least, most, a)), about(lazy(often(least, most, a)))...) {
				if got := simple.Is(n); got != (want && (most == -1 || most >= least)) {
					t.Errorf("%s is simple: %v", show(n), got)
				}
			}
		}
	}
	for _, n := range []syntax.Node{{}, a, of(syntax.Begin), of(syntax.End), of(syntax.Edge), of(syntax.Inner), of(syntax.Cat, a, b), of(syntax.Alt, a, b), group(8, a)} {
		if !simple.Is(n) {
			t.Errorf("%s is not simple", show(n))
		}
	}
	// what is not in normal form, or is large, is simple too
	for _, n := range []syntax.Node{of(syntax.Cat, syntax.Node{}, of(syntax.Cat, a, b)), of(syntax.Alt, of(syntax.Alt, a, b), a), of(syntax.Cat, many(1000, a)...)} {
		if !simple.Is(n) {
			t.Error("what is right, with nothing to unroll, is not simple")
		}
	}
	for _, n := range wrong() {
		for _, whole := range about(n) {
			if simple.Is(whole) {
				t.Errorf("%s is simple", show(whole))
			}
		}
	}
}

// wrong are nodes that are not right.
func wrong() []syntax.Node {
	return []syntax.Node{
		{Kind: 77}, {Kind: -1}, {Kind: 10}, {Kind: math.MinInt}, {Min: 1}, {Max: -1}, {Lazy: true}, {Group: 1}, {Class: a.Class},
		of(syntax.One), {Kind: syntax.One, Class: class.Class{{Low: 2, High: 1}}}, {Kind: syntax.Begin, Lazy: true}, of(syntax.End, a),
		of(syntax.Cat), of(syntax.Cat, a), of(syntax.Alt), of(syntax.Alt, a), lazy(of(syntax.Cat, a, b)),
		often(0, -1), often(0, 1, a, b), often(-1, -1, a), often(-1, 1, a), often(0, -2, a), often(2, 1, a), often(0, 21, a), often(21, 21, a), often(21, -1, a),
		often(0, math.MaxInt, a), often(math.MaxInt, math.MaxInt, a), often(math.MinInt, math.MaxInt, a), often(math.MaxInt, -1, a), often(math.MinInt, -1, a),
		group(0, a), group(9, a), group(-1, a), group(1), group(1, a, b),
	}
}

// P6.3: patterns by hand, and what they come to, the chapter's example first.
func TestOf(t *testing.T) {
	for s, want := range map[string]string{
		"a{2,3}": "aaa?",
		"":       "", "a": "a", "ab|c": "ab|c", "^$": "^$", `\b\B`: `\b\B`, "[a-c].": "[a-c].",
		// a star, a plus, an opt
		"a*": "a*", "a+": "a+", "a?": "a?", "a*?": "a*?", "a+?": "a+?", "a??": "a??",
		"a{0,}": "a*", "a{1,}": "a+", "a{0,1}": "a?", "a{0,}?": "a*?", "a{1,}?": "a+?", "a{0,1}?": "a??",
		// with no end
		"a{2,}": "aa+", "a{3,}": "aaa+", "a{5,}?": "aaaaa+?",
		"a{20,}":      strings.Repeat("a", 20) + "+",
		"(?:ab){2,}":  "ab(?:ab)+",
		"(?:a|b){2,}": "(?:a|b)(?:a|b)+",
		"(?:){2,}":    "(?:)+", "(?:){2,}?": "(?:)+?", "(?:){20,}": "(?:)+",
		"(a){2,}": "(a)(a)+",
		// of a number
		"a{0}": "", "a{0,0}": "", "a{0}?": "", "a{1}": "a", "a{1,1}?": "a", "a{2}": "aa", "a{3}?": "aaa",
		"a{20}":     strings.Repeat("a", 20),
		"(?:ab){2}": "abab", "(?:a|b){2}": "(?:a|b)(?:a|b)", "(?:){5}": "", "(?:a|b){1}": "a|b",
		"(?:a|b){1}|c": "a|b|c", "(?:ab){1}c": "abc", "c(?:ab){2}": "cabab", "x(?:ab){0}y": "xy", "a{0}b{0}": "", "a{0}b": "b",
		"a{0}|b": "|b", "(a{0})": "()", "(a){0}(b)": "(b)", "(?:a{0})*": "(?:)*",
		// from one number to another
		"a{0,2}": "(?:aa?)?", "a{0,3}": "(?:a(?:aa?)?)?", "a{0,2}?": "(?:aa??)??",
		"a{1,2}": "aa?", "a{1,2}?": "aa??", "a{1,3}": "a(?:aa?)?", "a{2,4}?": "aa(?:aa??)??", "a{19,20}": strings.Repeat("a", 20) + "?",
		"a{0,20}":     strings.Repeat("(?:a", 19) + "a?" + strings.Repeat(")?", 19),
		"(?:ab){1,2}": "ab(?:ab)?", "(?:ab){0,2}": "(?:ab(?:ab)?)?", "(?:a|b){1,2}": "(?:a|b)(?:a|b)?",
		"(?:){0,2}": "(?:(?:)?)?", "(?:){1,2}": "(?:)?", "(?:){2,4}?": "(?:(?:)??)??", "(a){1,2}": "(a)(a)?",
		"a{1,2}b": "aa?b", "(?:a{1,2}|b)c": "(?:aa?|b)c",
		// one within the other, the innermost first
		"(?:a{2}){3}": "aaaaaa", "(?:a{2}){2,}": "aa(?:aa)+", "(?:a{2}){1,2}": "aa(?:aa)?", "(?:a{0,2})*": "(?:(?:aa?)?)*",
		"(?:a{2})*": "(?:aa)*", "(?:a{2,}){2}": "aa+aa+", "(?:a{1,2}){1,2}": "aa?(?:aa?)?", "(?:a{2}?)*": "(?:aa)*",
		"(?:a{2,}?)*": "(?:aa+?)*", "(?:a{2,}){0,}?": "(?:aa+)*?", "(?:a*)*": "(?:a*)*", "(?:(?:a{1}){1}){1}": "a",
		"(?:(?:a|b){1}|c){2}": "(?:a|b|c)(?:a|b|c)", "(?:a{0}|b{2}|c){2}": "(?:|bb|c)(?:|bb|c)", "((a{2}){2})": "((aa)(aa))",
		"(?:(?:a{0}){0,3}){2}": "(?:(?:(?:)?)?)?(?:(?:(?:)?)?)?", "(?:a{0}b{0}){2,}": "(?:)+",
	} {
		n, _, e := syntax.Parse(s)
		if e != api.OK {
			t.Fatalf("%q is no pattern", s)
		}
		m, e := simple.Of(n)
		// the groups that stand more than once aren't told by what is put
		if got := syntax.Put(m); got != want || e != api.OK {
			t.Errorf("Of(%q) is %q, %d, not %q", s, got, e, want)
		}
		check(t, n)
	}
}

// P6.3: what stands more than once has its groups' numbers each time.
func TestOfGroups(t *testing.T) {
	for _, x := range []struct{ n, want syntax.Node }{
		{often(2, 2, group(3, a)), of(syntax.Cat, group(3, a), group(3, a))},
		{often(2, -1, group(8, a)), of(syntax.Cat, group(8, a), often(1, -1, group(8, a)))},
		{often(1, 2, group(2, group(1, a))), of(syntax.Cat, group(2, group(1, a)), often(0, 1, group(2, group(1, a))))},
		{group(5, often(2, 2, group(5, a))), group(5, of(syntax.Cat, group(5, a), group(5, a)))},
		{group(4, often(0, 0, group(5, a))), group(4, syntax.Node{})},
	} {
		got, e := simple.Of(x.n)
		if e != api.OK || !syntax.Same(got, x.want) {
			t.Errorf("Of(%s) is %s, %d, not %s", show(x.n), show(got), e, show(x.want))
		}
	}
}

// P6.3: what is right, but not in normal form, comes to a Sequence and a
// Choice of what its Kids come to.
func TestOfNotNormal(t *testing.T) {
	empty, cat, alt := syntax.Node{}, of(syntax.Cat, a, b), of(syntax.Alt, a, b)
	for _, x := range []struct{ n, want syntax.Node }{
		{of(syntax.Cat, empty, empty), empty},
		{of(syntax.Cat, empty, a), a},
		{of(syntax.Cat, a, cat), of(syntax.Cat, a, a, b)},
		{of(syntax.Cat, of(syntax.Cat, a, of(syntax.Cat, empty, cat)), empty), of(syntax.Cat, a, a, b)},
		{of(syntax.Cat, often(0, 0, a), often(1, 1, cat)), cat},
		{of(syntax.Alt, alt, of(syntax.Alt, c, alt)), of(syntax.Alt, a, b, c, a, b)},
		{of(syntax.Alt, of(syntax.Cat, empty, alt), c), of(syntax.Alt, a, b, c)},
		{of(syntax.Alt, empty, often(0, 0, a)), of(syntax.Alt, empty, empty)},
		{often(0, -1, of(syntax.Cat, empty, empty)), often(0, -1, empty)},
		{often(2, 2, of(syntax.Cat, empty, of(syntax.Cat, empty, a))), of(syntax.Cat, a, a)},
		{group(1, of(syntax.Cat, alt, empty)), group(1, alt)},
	} {
		got, e := simple.Of(x.n)
		if e != api.OK || !syntax.Same(got, x.want) {
			t.Errorf("Of(%s) is %s, %d, not %s", show(x.n), show(got), e, show(x.want))
		}
		check(t, x.n)
	}
}

// P6.3: what is not right is told ahead of what is too large, and nothing is
// told with it.
func TestOfWrong(t *testing.T) {
	large := of(syntax.Cat, many(1000, a)...)
	for _, n := range wrong() {
		for _, whole := range []syntax.Node{n, group(1, n), often(0, 0, n), of(syntax.Cat, a, n), of(syntax.Alt, n, a), of(syntax.Cat, large, n), of(syntax.Cat, often(20, 20, often(20, 20, a)), n)} {
			got, e := simple.Of(whole)
			if e != api.ErrArg || show(got) != "Empty" {
				t.Errorf("Of(%s) is %s, %d", show(n), show(got), e)
			}
		}
	}
}

// P6.3: what comes to MaxTree nodes is told; what comes to one more, or has
// something within that does, is too large.
func TestOfBig(t *testing.T) {
	row := func(n int) syntax.Node { return of(syntax.Cat, many(n, a)...) }
	bars := func(n int) syntax.Node { return of(syntax.Alt, many(n, a)...) }
	times := often(19, 19, often(20, 20, a)) // 380 runes
	empties := of(syntax.Cat, many(1000, syntax.Node{})...)
	for i, x := range []struct {
		n    syntax.Node
		size int // 0, if it is too large
	}{
		{row(399), 400}, {row(400), 0}, {bars(399), 400}, {bars(400), 0},
		{deep(a, 399), 400}, {deep(a, 400), 0},
		{often(20, 20, row(19)), 381}, {often(20, 20, row(20)), 0},
		{often(20, 20, often(20, 20, a)), 0},
		{often(19, 20, row(20)), 0}, {often(18, 19, row(20)), 18*20 + 1 + 1 + 21},
		{often(20, -1, row(18)), 19*18 + 1 + 1 + 19},
		{often(20, -1, row(20)), 0}, {often(19, -1, row(20)), 18*20 + 1 + 1 + 21},
		{often(0, 20, row(18)), 400}, {often(0, 20, row(19)), 0},
		{of(syntax.Cat, times, often(19, 19, a)), 400}, {of(syntax.Cat, times, often(20, 20, a)), 0},
		{of(syntax.Alt, bars(200), bars(199)), 400}, {of(syntax.Alt, bars(200), bars(200)), 0},
		{group(1, row(398)), 400}, {group(1, row(399)), 0}, {often(0, -1, row(398)), 400}, {often(0, -1, row(399)), 0},
		// large, but what it comes to is not
		{empties, 1}, {of(syntax.Cat, empties, empties, a), 1}, {of(syntax.Cat, row(100), empties, row(299)), 400},
		{often(20, 20, empties), 1}, {of(syntax.Cat, many(1000, often(0, 0, row(399)))...), 1},
		// something within is too large, though it is repeated no time
		{often(0, 0, row(399)), 1}, {often(0, 0, row(400)), 0},
		{often(0, 0, often(20, 20, often(20, 20, a))), 0}, {often(0, 0, often(19, 19, often(20, 20, a))), 1},
		{of(syntax.Cat, a, group(1, often(0, 0, of(syntax.Alt, a, row(400))))), 0},
		{often(0, 0, often(0, 0, row(400))), 0},
		{often(0, 0, deep(a, 400)), 0},
	} {
		got, e := simple.Of(x.n)
		if x.size == 0 {
			if e != api.ErrBig || show(got) != "Empty" {
				t.Errorf("%d: a node of %d comes to one of %d, %d, and is too large", i, syntax.Size(x.n), syntax.Size(got), e)
			}
		} else if e != api.OK || syntax.Size(got) != x.size {
			t.Errorf("%d: a node of %d comes to one of %d, %d, not of %d", i, syntax.Size(x.n), syntax.Size(got), e, x.size)
		}
		check(t, x.n)
	}
}

// P1 of the whole: every call ends, of nodes as deep as they may stand, and of
// such as would grow beyond any bound.
func TestEnds(t *testing.T) {
	const most = 100000
	if n := deep(a, most-1); !simple.Is(n) {
		t.Error("what is deep is not simple")
	} else if got, e := simple.Of(n); e != api.ErrBig || show(got) != "Empty" {
		t.Errorf("Of what is deep is %d", e)
	}
	if n := deep(often(2, 2, a), most-2); simple.Is(n) {
		t.Error("what is deepest is not asked")
	}
	if _, e := simple.Of(deep(often(2, 1, a), most-2)); e != api.ErrArg {
		t.Errorf("Of what is deepest and not right is %d", e)
	}
	inner, grown := of(syntax.Cat, many(39, a)...), a
	for range most - 2 {
		inner, grown = often(1, 1, inner), often(20, 20, grown)
	}
	if got, e := simple.Of(inner); e != api.OK || syntax.Size(got) != 40 {
		t.Errorf("Of what is repeated once, and once again, is of %d, %d", syntax.Size(got), e)
	}
	if _, e := simple.Of(grown); e != api.ErrBig {
		t.Errorf("Of what grows is %d", e)
	}
	// each kid fits, and all at one time would be some 10 gigabytes
	for _, kind := range []int{syntax.Cat, syntax.Alt} {
		wide := of(kind, many(500000, often(20, 20, of(kind, many(19, a)...)))...)
		if _, e := simple.Of(wide); e != api.ErrBig {
			t.Errorf("Of what is wide is %d", e)
		}
	}
}

// P3 of the whole: nothing that is handed in is written into, nor what stands
// behind it in its array, and the list that is told is of its own.
func TestHandedIn(t *testing.T) {
	kids := []syntax.Node{of(syntax.Cat, a, b), a, {}, often(2, 3, group(1, a)), of(syntax.Alt, a, b), b, c}
	before := show(of(syntax.Cat, kids...))
	kept := func(what string) {
		t.Helper()
		if got := show(of(syntax.Cat, kids...)); got != before {
			t.Fatalf("%s: handed in was %s, is %s", what, before, got)
		}
	}
	spoil := func(l []syntax.Node) {
		l = append(l, of(77))
		for i := range l {
			l[i].Kind = 77
		}
	}
	for end := range len(kids) {
		simple.Is(of(syntax.Cat, kids[:end]...))
		for _, of := range []func(...syntax.Node) syntax.Node{simple.Sequence, simple.Choice} {
			for from := range end - 1 { // of one alone its Kids may be shared
				spoil(of(kids[from:end]...).Kids)
				kept("a join")
			}
		}
		for _, kind := range []int{syntax.Cat, syntax.Alt, syntax.Group, syntax.Repeat} {
			n := syntax.Node{Kind: kind, Kids: kids[:end]}
			switch kind {
			case syntax.Group:
				n.Group = 1
			case syntax.Repeat:
				n.Min, n.Max = 2, -1
			}
			told, _ := simple.Of(n)
			spoil(told.Kids)
			kept("Of")
		}
	}
}

// chance is a row of numbers, the same one in each run.
type chance uint64

func (c *chance) below(n int) int {
	*c = *c*6364136223846793005 + 1442695040888963407
	return int(uint64(*c) >> 33 % uint64(n))
}

// kids are some nodes.
func (c *chance) kids(depth int, ends []int) []syntax.Node {
	var out []syntax.Node
	for range 2 + c.below(3) {
		out = append(out, c.node(depth, ends))
	}
	return out
}

// node is any right one; what is repeated is so between two of the ends, or
// with no end.
func (c *chance) node(depth int, ends []int) syntax.Node {
	if depth == 0 {
		if c.below(4) == 0 {
			return of([]int{syntax.Empty, syntax.Begin, syntax.End, syntax.Edge, syntax.Inner}[c.below(5)])
		}
		return one(rune('a' + c.below(3)))
	}
	switch c.below(8) {
	case 0, 1:
		return of(syntax.Cat, c.kids(depth-1, ends)...)
	case 2:
		return of(syntax.Alt, c.kids(depth-1, ends)...)
	case 3:
		return group(1+c.below(8), c.node(depth-1, ends))
	case 4:
		return c.node(0, ends)
	}
	least := c.below(len(ends))
	n := often(ends[least], ends[least+c.below(len(ends)-least)], c.node(depth-1, ends))
	if c.below(3) == 0 {
		n.Max = -1
	}
	n.Lazy = c.below(2) == 0
	return n
}

// P6.2 to P6.4: what any right node comes to is what the chapter's rules say,
// is simple, and comes to itself.
func TestAnyRight(t *testing.T) {
	c, big, small := chance(1), 0, 0
	for i := range 12000 {
		n := c.node(1+i%6, []int{0, 0, 1, 2, 3, 5, 20}[i%3:])
		if !syntax.Right(n) {
			t.Fatalf("%s is not right", show(n))
		}
		if check(t, n) {
			small++
		} else {
			big++
		}
	}
	if big < 1000 || small < 4000 {
		t.Errorf("%d were too large, %d were not", big, small)
	}
}

// groups are the numbers of the groups in n, but of those below what is
// repeated no time, rising.
func groups(n syntax.Node) []int {
	var out []int
	if n.Kind == syntax.Repeat && n.Max == 0 {
		return nil
	}
	if n.Kind == syntax.Group {
		out = append(out, n.Group)
	}
	for _, kid := range n.Kids {
		out = append(out, groups(kid)...)
	}
	slices.Sort(out)
	return slices.Compact(out)
}

// P6.4: the groups of what is told are those of what is unrolled.
func TestGroupsStay(t *testing.T) {
	c := chance(2)
	for i := range 5000 {
		n := c.node(1+i%5, []int{0, 1, 2, 3})
		m, e := simple.Of(n)
		if e == api.OK && !slices.Equal(groups(m), groups(n)) {
			t.Fatalf("%s has %v, and comes to %s with %v", show(n), groups(n), show(m), groups(m))
		}
	}
}

// P6.4: what is simple, and in normal form, as what is parsed is, comes to
// itself.
func TestSimpleStays(t *testing.T) {
	c, tokens := chance(3), []string{"a", "b", "(", "(?:", ")", ")", "|", "*", "+?", "?", "+", "*?", "??", "[a-c]", `\b`, "^", "$", "."}
	stayed := 0
	for range 60000 {
		s := ""
		for range 1 + c.below(9) {
			s += tokens[c.below(len(tokens))]
		}
		n, _, e := syntax.Parse(s)
		if e != api.OK {
			continue
		}
		stayed++
		if m, e := simple.Of(n); e != api.OK || !syntax.Same(m, n) || !simple.Is(n) {
			t.Fatalf("%q is %s, and comes to %s, %d", s, show(n), show(m), e)
		}
	}
	if stayed < 5000 {
		t.Errorf("only %d were patterns", stayed)
	}
}
