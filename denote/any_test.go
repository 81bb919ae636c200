package denote_test

import (
	"regexp"
	"slices"
	"strings"
	"testing"

	"waxwork/api"
	"waxwork/class"
	"waxwork/denote"
	"waxwork/simple"
	"waxwork/syntax"
)

// chance is a row of numbers, the same one in each run.
type chance uint64

func (c *chance) below(n int) int {
	*c = *c*6364136223846793005 + 1442695040888963407
	return int(uint64(*c) >> 33 % uint64(n))
}

// of is one of some.
func (c *chance) of(some ...string) string {
	return some[c.below(len(some))]
}

// text is any of some runes, and of bytes that are of none.
func (c *chance) text(most int) string {
	s := ""
	for range c.below(most + 1) {
		s += c.of("a", "a", "a", "b", "b", "c", "é", " ", "\n", "_", "\xff", "\xc3", "\ufffd", "€")
	}
	return s
}

// leaf is a node without kids.
func (c *chance) leaf() syntax.Node {
	switch c.below(12) {
	case 0:
		return of(syntax.Empty)
	case 1:
		return of([]int{syntax.Begin, syntax.End, syntax.Edge, syntax.Inner}[c.below(4)])
	case 2:
		return syntax.Node{Kind: syntax.One, Class: class.Not(class.Of(class.Range{Low: 'a', High: 'b'}))}
	case 3:
		return syntax.Node{Kind: syntax.One, Class: class.Class{{Low: 'a', High: 'b'}, {Low: 0xe9, High: 0xfffd}}}
	}
	return one(rune('a' + c.below(2)))
}

// node is any simple one, in normal form or not, with groups that stand in one
// another or more than once.
func (c *chance) node(depth int) syntax.Node {
	if depth == 0 {
		return c.leaf()
	}
	switch c.below(7) {
	case 0, 1:
		return of(syntax.Cat, c.kids(depth-1)...)
	case 2:
		return of(syntax.Alt, c.kids(depth-1)...)
	case 3:
		return group(1+c.below(1+c.below(8)), c.node(depth-1))
	case 4:
		return c.leaf()
	}
	n := []syntax.Node{star(c.node(depth - 1)), plus(c.node(depth - 1)), opt(c.node(depth - 1))}[c.below(3)]
	n.Lazy = c.below(3) == 0
	return n
}

// kids are some nodes.
func (c *chance) kids(depth int) []syntax.Node {
	var out []syntax.Node
	for range 2 + c.below(2) {
		out = append(out, c.node(depth))
	}
	return out
}

// P7.3, P7.4: of any simple node, and any text, all is as the chapter's rules
// tell.
func TestAny(t *testing.T) {
	c := chance(1)
	for i := range 12000 {
		n := c.node(1 + i%5)
		if !simple.Is(n) {
			t.Fatalf("%s is not simple", show(n))
		}
		for range 3 {
			check(t, n, c.text(6))
		}
	}
}

// small are all nodes of that size, of few kinds of each sort.
func small(size int) []syntax.Node {
	if size == 1 {
		return []syntax.Node{{}, a, b, of(syntax.End)}
	}
	var out []syntax.Node
	for _, kid := range small(size - 1) {
		out = append(out, star(kid), lazy(star(kid)), plus(kid), lazy(plus(kid)), opt(kid), lazy(opt(kid)), group(1, kid), group(2, kid))
	}
	for left := 1; left < size-1; left++ {
		for _, first := range small(left) {
			for _, second := range small(size - 1 - left) {
				out = append(out, of(syntax.Cat, first, second), of(syntax.Alt, first, second))
			}
		}
	}
	return out
}

// P7.3, P7.4: so of all nodes that are small.
func TestAllSmall(t *testing.T) {
	for size := 1; size <= 4; size++ {
		for _, n := range small(size) {
			for _, s := range []string{"", "a", "b", "aa", "ab", "ba", "aab"} {
				check(t, n, s)
			}
		}
	}
}

// pattern is any one, as a text.
func (c *chance) pattern(depth int) string {
	if depth == 0 {
		return c.of("a", "a", "b", "a", "b", "é", ".", "^", "$", `\b`, `\B`, "[ab]", "[^a]", `\w`, `\d`, "[é-€]", `\n`, "")
	}
	switch c.below(7) {
	case 0, 1:
		return c.pattern(depth-1) + c.pattern(depth-1)
	case 2:
		return c.pattern(depth-1) + "|" + c.pattern(depth-1)
	case 3:
		return "(" + c.pattern(depth-1) + ")"
	case 4:
		return "(?:" + c.pattern(depth-1) + ")"
	}
	return "(?:" + c.pattern(depth-1) + ")" + c.of("*", "+", "?", "{2}", "{1,3}", "{0,2}", "{2,}") + c.of("", "", "?")
}

// mayBeNothing tells whether n may be through where it is asked.
func mayBeNothing(n syntax.Node) bool {
	switch n.Kind {
	case syntax.One:
		return false
	case syntax.Cat:
		return !slices.ContainsFunc(n.Kids, func(n syntax.Node) bool { return !mayBeNothing(n) })
	case syntax.Alt:
		return slices.ContainsFunc(n.Kids, mayBeNothing)
	case syntax.Group:
		return mayBeNothing(n.Kids[0])
	case syntax.Repeat:
		return n.Min == 0 || mayBeNothing(n.Kids[0])
	}
	return true
}

// goesRound tells whether n repeats, with no end, what may be nothing.
func goesRound(n syntax.Node) bool {
	return n.Kind == syntax.Repeat && n.Max == -1 && mayBeNothing(n.Kids[0]) || slices.ContainsFunc(n.Kids, goesRound)
}

// T3 of the whole: what is found is what others find, who were made by other
// hands. (Of what repeats nothing with no end they tell something else.)
func TestOthers(t *testing.T) {
	c, asked, found := chance(2), 0, 0
	for i := range 40000 {
		s := c.pattern(1 + i%5)
		n, _, e := syntax.Parse(s)
		if e != api.OK || goesRound(n) {
			continue
		}
		m, e := simple.Of(n)
		if e != api.OK {
			continue
		}
		other, err := regexp.Compile(s)
		if err != nil {
			t.Fatal(s, err)
		}
		for range 3 {
			text := c.text(8)
			want := other.FindStringSubmatchIndex(text)
			want = want[:min(len(want), 2+2*syntax.Groups(m))] // the groups of what is repeated no time are none
			got, ok := denote.Find(m, text)
			if ok != (want != nil) || !slices.Equal(got, want) {
				t.Fatalf("Find(%q, %q) is %v, %v, and others tell %v", s, text, got, ok, want)
			}
			asked++
			if ok && len(got) > 2 && got[1] > 0 {
				found++
			}
		}
	}
	if asked < 20000 || found < 5000 {
		t.Errorf("of %d texts %d had something with groups", asked, found)
	}
}

// P7.4: a way that begins nowhere but late is found, whatever was asked ahead.
func TestFindLate(t *testing.T) {
	c := chance(3)
	for i := range 6000 {
		n := of(syntax.Cat, c.node(1+i%4), one('c'), opt(group(1, c.node(1))))
		check(t, n, strings.Repeat(c.of("a", "b", "ab", "aab", "é", " a"), c.below(4))+c.of("", "c", "ca", "cb", "\xffc"))
	}
}
