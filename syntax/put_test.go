package syntax_test

import (
	"math"
	"testing"

	"waxwork/api"
	"waxwork/class"
	"waxwork/runes"
	"waxwork/syntax"
)

// lazy is n, as soon through as it may be.
func lazy(n syntax.Node) syntax.Node {
	n.Lazy = true
	return n
}

// ranges is a node of the Ranges of these ends, two by two.
func ranges(ends ...rune) syntax.Node {
	var c class.Class
	for i := 0; i+1 < len(ends); i += 2 {
		c = append(c, class.Range{Low: ends[i], High: ends[i+1]})
	}
	return syntax.Node{Kind: syntax.One, Class: c}
}

// P5.5: nodes in normal form, by hand, the chapter's example with them.
func TestPut(t *testing.T) {
	b, empty := one('b', 'b'), syntax.Node{}
	alt, cat := of(syntax.Alt, a(), b), of(syntax.Cat, a(), b)
	for _, c := range []struct {
		n    syntax.Node
		want string
	}{
		{of(syntax.Cat, a(), lazy(often(0, -1, b))), "ab*?"}, // the chapter's example
		{empty, ""},
		{a(), "a"},
		{one('.', '.'), `\.`},
		{one('-', '-'), "-"},
		{one('\n', '\n'), "\n"},
		{one('€', '€'), "€"},
		{one(runes.Bad, runes.Bad), "\ufffd"},
		{one(0, 0), "\x00"},
		{ranges(0, 9, 11, runes.Most), "."},
		{ranges(0, 9, 11, runes.Most-1), "[\x00-\t\x0b-\U0010fffe]"},
		{ranges(0, 9, 12, runes.Most), "[\x00-\t\x0c-\U0010ffff]"},
		{ranges(0, 9), "[\x00-\t]"},
		{ranges(0, runes.Most), "[\x00-\U0010ffff]"},
		{ranges('a', 'b'), "[a-b]"},
		{ranges('a', 'a', 'c', 'c'), "[ac]"},
		{ranges('a', 'c', 'x', 'x'), "[a-cx]"},
		{ranges('-', '-', '\\', '^'), `[\-\\-\^]`},
		{ranges(']', ']', 'a', 'a'), `[\]a]`},
		{ranges('$', '$', '(', '+', '.', '.', '?', '?', '[', '[', '{', '}'), "[$(-+.?[{-}]"},
		{ranges('+', '-'), `[+-\-]`},
		{ranges('-', '.'), `[\--.]`},
		{ranges(0xd800, 0xdfff), "[\ufffd-\ufffd]"}, // they have no bytes of their own
		{of(syntax.Cat, of(syntax.Begin), of(syntax.End), of(syntax.Edge), of(syntax.Inner)), `^$\b\B`},
		{cat, "ab"},
		{alt, "a|b"},
		{of(syntax.Alt, empty, empty), "|"},
		{of(syntax.Alt, a(), empty, b), "a||b"},
		{of(syntax.Alt, cat, of(syntax.Cat, b, a())), "ab|ba"},
		{of(syntax.Cat, alt, alt), "(?:a|b)(?:a|b)"},
		{group(1, empty), "()"},
		{group(1, alt), "(a|b)"},
		{group(1, cat), "(ab)"},
		{of(syntax.Cat, group(1, group(2, a())), group(3, b)), "((a))(b)"},
		{often(0, -1, empty), "(?:)*"},
		{often(0, -1, group(1, empty)), "()*"},
		{often(0, -1, cat), "(?:ab)*"},
		{often(0, -1, alt), "(?:a|b)*"},
		{often(0, -1, group(1, alt)), "(a|b)*"},
		{often(0, -1, often(0, -1, a())), "(?:a*)*"},
		{lazy(often(0, 1, lazy(often(0, 1, a())))), "(?:a??)??"},
		{often(0, -1, ranges('a', 'b')), "[a-b]*"},
		{often(0, 1, of(syntax.Edge)), `\b?`},
		{often(0, -1, a()), "a*"},
		{often(1, -1, a()), "a+"},
		{often(0, 1, a()), "a?"},
		{often(0, 0, a()), "a{0}"},
		{often(1, 1, a()), "a{1}"},
		{often(20, 20, a()), "a{20}"},
		{often(2, -1, a()), "a{2,}"},
		{often(20, -1, a()), "a{20,}"},
		{often(0, 2, a()), "a{0,2}"},
		{often(1, 2, a()), "a{1,2}"},
		{often(3, 20, a()), "a{3,20}"},
		{lazy(often(1, -1, a())), "a+?"},
		{lazy(often(1, 1, a())), "a{1}?"},
		{lazy(often(2, -1, a())), "a{2,}?"},
		{lazy(often(2, 4, cat)), "(?:ab){2,4}?"},
	} {
		if got := syntax.Put(c.n); got != c.want {
			t.Errorf("Put of %s is %q, not %q", show(c.n), got, c.want)
		}
		checkBack(t, c.n)
	}
}

// P5.5: each rune alone is told by its bytes, with a backslash ahead just if it
// is special; in a class just if it is one of its own four.
func TestPutEveryRune(t *testing.T) {
	for r := range rune(0x3000) {
		want, inClass := string(r), string(r)
		switch r {
		case '\\', ']', '^':
			want, inClass = `\`+want, `\`+want
		case '-':
			inClass = `\-`
		case '.', '[', '(', ')', '*', '+', '?', '{', '}', '|', '$':
			want = `\` + want
		}
		if got := syntax.Put(one(r, r)); got != want {
			t.Fatalf("Put of %x is %q", r, got)
		}
		if got := syntax.Put(ranges(r, r, 0x4000, 0x4000)); got != "["+inClass+"\u4000]" {
			t.Fatalf("Put of a class with %x is %q", r, got)
		}
		if got := syntax.Put(ranges(r, 0x4000)); got != "["+inClass+"-\u4000]" {
			t.Fatalf("Put of a class from %x is %q", r, got)
		}
		if got := syntax.Put(ranges(0, r)); r > 0 && got != "[\x00-"+inClass+"]" {
			t.Fatalf("Put of a class to %x is %q", r, got)
		}
	}
}

// P1 of the whole: what may not be has some text too.
func TestPutOfAny(t *testing.T) {
	for _, n := range append(wrong(), ranges(math.MinInt32, math.MaxInt32), ranges(-1, -1), often(math.MinInt, math.MaxInt, a(), a()), of(77, a())) {
		syntax.Put(n)
		syntax.Put(of(syntax.Cat, deep(n, 2), n))
	}
}

// chance is a row of numbers, the same one in each run.
type chance uint64

func (c *chance) below(n int) int {
	*c = *c*6364136223846793005 + 1442695040888963407
	return int(uint64(*c) >> 33 % uint64(n))
}

// runeOf is one at which something changes, or an ordinary one.
func (c *chance) runeOf() rune {
	const some = "\x00\t\n\r !-.[]^\\(){}*+?|$09AZ_az~\x7f\u0080é\u07ff\u0800€\ud7ff\ue000\ufffd\uffff\U00010000\U0010ffff"
	l := []rune(some)
	return l[c.below(len(l))]
}

// piece is a node in normal form that is no Empty, Cat or Alt; groups counts.
func (c *chance) piece(groups *int, depth int) syntax.Node {
	pick := c.below(8)
	switch {
	case pick == 0:
		return of(2 + c.below(4))
	case pick <= 2 && depth > 0:
		ends := []int{0, 1, 2, 19, 20}
		least := c.below(len(ends))
		most := least + c.below(len(ends)-least)
		n := often(ends[least], ends[most], c.node(groups, depth-1))
		if c.below(2) == 0 {
			n.Max = -1
		}
		n.Lazy = c.below(2) == 0
		return n
	case pick == 3 && depth > 0 && *groups < api.MaxGroups:
		*groups++
		number := *groups
		return group(number, c.node(groups, depth-1))
	case pick <= 5:
		var l []class.Range
		for range 1 + c.below(4) {
			low, high := c.runeOf(), c.runeOf()
			l = append(l, class.Range{Low: min(low, high), High: max(low, high)})
		}
		return syntax.Node{Kind: syntax.One, Class: class.Of(l...)}
	}
	r := c.runeOf()
	return one(r, r)
}

// several are some nodes, each by next.
func (c *chance) several(next func() syntax.Node) []syntax.Node {
	var out []syntax.Node
	for range 2 + c.below(2) {
		out = append(out, next())
	}
	return out
}

// row is a Cat, or a piece.
func (c *chance) row(groups *int, depth int) syntax.Node {
	if depth == 0 || c.below(2) == 0 {
		return c.piece(groups, depth)
	}
	return of(syntax.Cat, c.several(func() syntax.Node {
		if c.below(4) == 0 {
			return of(syntax.Alt, c.several(func() syntax.Node { return c.piece(groups, depth-1) })...)
		}
		return c.piece(groups, depth-1)
	})...)
}

// node is any one in normal form.
func (c *chance) node(groups *int, depth int) syntax.Node {
	switch c.below(6) {
	case 0:
		return syntax.Node{}
	case 1, 2:
		return of(syntax.Alt, c.several(func() syntax.Node { return c.row(groups, depth) })...)
	}
	return c.row(groups, depth)
}

// P5.6: what is put of a node in normal form, as a pattern's is, is parsed as
// the same.
func TestPutThenParse(t *testing.T) {
	c, many := chance(1), 0
	for range 40000 {
		groups := 0
		n := c.node(&groups, 1+c.below(4))
		if !syntax.Right(n) {
			t.Fatalf("%s is not right", show(n))
		}
		s := syntax.Put(n)
		if len(s) > api.MaxPattern {
			continue
		}
		many++
		back, at, e := syntax.Parse(s)
		if e != api.OK || at != len(s) || !syntax.Same(n, back) || show(n) != show(back) || syntax.Put(back) != s {
			t.Fatalf("%s is put as %q, which is %s, %d, %d", show(n), s, show(back), at, e)
		}
		checkPattern(t, s)
	}
	if many < 20000 {
		t.Errorf("only %d were short enough", many)
	}
}

// P5.2 to P5.6: patterns of tokens in any order, and such as are cut, follow
// the chapter's rules.
func TestAnyTokens(t *testing.T) {
	tokens := []string{"a", "b", "é", "(", "(?:", ")", ")", "|", "*", "+?", "?", "{2}", "{1,3}?", "{4,}", "{2,1}", "[ab]", "[^a-z]", `[\d\-]`, "[]", `\d`, `\b`, `\q`, "^", "$", ".", "\xff", "\ufffd", "-", ","}
	c := chance(2)
	for range 60000 {
		s := ""
		for range 1 + c.below(14) {
			s += tokens[c.below(len(tokens))]
		}
		checkPattern(t, s)
		checkPattern(t, s[:c.below(len(s)+1)])
	}
}
