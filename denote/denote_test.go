package denote_test

import (
	"math"
	"runtime/debug"
	"slices"
	"strings"
	"testing"

	"waxwork/api"
	"waxwork/class"
	"waxwork/denote"
	"waxwork/simple"
	"waxwork/syntax"
)

// one is a node of r alone.
func one(r rune) syntax.Node {
	return syntax.Node{Kind: syntax.One, Class: class.Class{{Low: r, High: r}}}
}

// of is a node of a kind and its kids.
func of(kind int, kids ...syntax.Node) syntax.Node {
	return syntax.Node{Kind: kind, Kids: kids}
}

// often is a node of what is repeated.
func often(least, most int, kids ...syntax.Node) syntax.Node {
	return syntax.Node{Kind: syntax.Repeat, Min: least, Max: most, Kids: kids}
}

func star(n syntax.Node) syntax.Node { return often(0, -1, n) }
func plus(n syntax.Node) syntax.Node { return often(1, -1, n) }
func opt(n syntax.Node) syntax.Node  { return often(0, 1, n) }

// lazy is n, as soon through as it may be.
func lazy(n syntax.Node) syntax.Node {
	n.Lazy = true
	return n
}

// group is a node of a group.
func group(number int, kids ...syntax.Node) syntax.Node {
	return syntax.Node{Kind: syntax.Group, Group: number, Kids: kids}
}

// many are so many of x.
func many[T any](times int, x T) []T {
	return slices.Repeat([]T{x}, times)
}

var a, b = one('a'), one('b')

// tree is the simple tree of a pattern.
func tree(t *testing.T, s string) syntax.Node {
	t.Helper()
	n, _, e := syntax.Parse(s)
	m, f := simple.Of(n)
	if e != api.OK || f != api.OK {
		t.Fatal(s, e, f)
	}
	return m
}

// list is a list of numbers.
func list(l ...int) []int { return l }

// P7.1: at which bytes of a text each kind holds.
func TestHolds(t *testing.T) {
	for _, x := range []struct {
		kind int
		s    string
		want []int
	}{
		{syntax.Begin, "", list(0)}, {syntax.Begin, "ab", list(0)}, {syntax.Begin, "\xff\xff", list(0)},
		{syntax.End, "", list(0)}, {syntax.End, "ab", list(2)}, {syntax.End, "aé", list(3)}, {syntax.End, "a\n", list(2)}, {syntax.End, "\xff\xff", list(2)},
		{syntax.Edge, "", nil}, {syntax.Edge, "a", list(0, 1)}, {syntax.Edge, "ab", list(0, 2)}, {syntax.Edge, " ", nil}, {syntax.Edge, "a bc", list(0, 1, 2, 4)},
		{syntax.Edge, "aéb", list(0, 1, 3, 4)}, {syntax.Edge, "_-9", list(0, 1, 2, 3)}, {syntax.Edge, "é€", nil}, {syntax.Edge, "a\xff", list(0, 1)}, {syntax.Edge, "\xffZ", list(1, 2)},
		{syntax.Inner, "", list(0)}, {syntax.Inner, "a", nil}, {syntax.Inner, "ab", list(1)}, {syntax.Inner, " ", list(0, 1)}, {syntax.Inner, "a bc", list(3)},
		{syntax.Inner, "aéb", nil}, {syntax.Inner, "é€", list(0, 2, 5)}, {syntax.Inner, "\xe2\x82", list(0, 1, 2)}, {syntax.Inner, "€ ", list(0, 3, 4)}, {syntax.Inner, "a\xff", list(2)},
		// other kinds
		{syntax.Empty, "ab", nil}, {syntax.One, "ab", nil}, {syntax.Cat, "ab", nil}, {syntax.Alt, "ab", nil}, {syntax.Repeat, "ab", nil}, {syntax.Group, "ab", nil},
		{-1, "ab", nil}, {10, "ab", nil}, {math.MinInt, "ab", nil}, {math.MaxInt, "ab", nil},
	} {
		var got []int
		for at := -3; at <= len(x.s)+3; at++ {
			if denote.Holds(x.kind, x.s, at) {
				got = append(got, at)
			}
		}
		if !slices.Equal(got, x.want) {
			t.Errorf("%d holds in %q at %v, not at %v", x.kind, x.s, got, x.want)
		}
		for _, at := range list(math.MinInt, math.MinInt+1, math.MaxInt) {
			if denote.Holds(x.kind, x.s, at) {
				t.Errorf("%d holds at %d", x.kind, at)
			}
		}
	}
	for kind := -1; kind <= 11; kind++ {
		c := chance(4)
		for range 200 {
			s := c.text(5)
			for at := -1; at <= len(s)+1; at++ {
				if denote.Holds(kind, s, at) != plainHolds(kind, s, at) {
					t.Fatalf("Holds(%d, %q, %d) is not as the chapter tells", kind, s, at)
				}
			}
		}
	}
}

// P7.2, P7.3: the pairs are as many as the greatest number of a group asks for,
// and those that a way does not come by have no place.
func TestCaps(t *testing.T) {
	for _, x := range []struct {
		n    syntax.Node
		s    string
		at   int
		want []int
	}{
		{of(syntax.Empty), "", 0, list(0, 0)},
		{of(syntax.Empty), "abc", 3, list(3, 3)},
		{a, "ba", 1, list(1, 2)},
		{group(3, a), "ba", 1, list(1, 2, -1, -1, -1, -1, 1, 2)},
		{group(8, of(syntax.Empty)), "", 0, slices.Concat(list(0, 0), many(14, -1), list(0, 0))},
		{of(syntax.Alt, a, group(2, b)), "a", 0, list(0, 1, -1, -1, -1, -1)},
		{of(syntax.Alt, group(1, b), group(2, a)), "a", 0, list(0, 1, -1, -1, 0, 1)},
		{of(syntax.Cat, opt(group(1, b)), a), "a", 0, list(0, 1, -1, -1)},
		// of a number that stands more than once the last one tells
		{of(syntax.Cat, group(1, a), group(1, b)), "ab", 0, list(0, 2, 1, 2)},
		{group(1, group(1, a)), "a", 0, list(0, 1, 0, 1)},
		{group(1, of(syntax.Cat, a, group(1, a), a)), "aaa", 0, list(0, 3, 1, 3)},
		{of(syntax.Cat, group(1, a), opt(group(1, of(syntax.Cat, a, b)))), "aac", 0, list(0, 1, 0, 1)},
		// what was set on a way that came to nothing is not set
		{of(syntax.Alt, of(syntax.Cat, group(1, a), group(2, b)), of(syntax.Cat, a, a)), "aa", 0, list(0, 2, -1, -1, -1, -1)},
		{star(of(syntax.Alt, of(syntax.Cat, group(1, a), b), group(2, a))), "aab", 0, list(0, 3, 1, 2, 0, 1)},
	} {
		ways, e := denote.Ways(x.n, x.s, x.at)
		if e != api.OK || len(ways) == 0 || !slices.Equal(ways[0].Caps, x.want) || ways[0].End != x.want[1] {
			t.Errorf("Ways(%s, %q, %d) begins with %v, %d, not with %v", show(x.n), x.s, x.at, ways, e, x.want)
		}
		check(t, x.n, x.s)
	}
}

// P7.3: patterns by hand: where each way ends, in order, from a place on.
func TestWaysInOrder(t *testing.T) {
	for _, x := range []struct {
		pattern, s string
		at         int
		want       []int
	}{
		{"", "ab", 1, list(1)}, {"(?:)", "", 0, list(0)},
		{"a", "a", 0, list(1)}, {"a", "a", 1, nil}, {"a", "b", 0, nil}, {"a", "", 0, nil}, {"é", "aé", 1, list(3)}, {".", "\xff\xff", 1, list(2)}, {"\ufffd", "\xe2\x82", 0, list(1)}, {"[^a]", "\xe2\x82", 1, list(2)}, {".", "\n", 0, nil},
		{"^", "a", 0, list(0)}, {"^", "a", 1, nil}, {"$", "a", 1, list(1)}, {"$", "a", 0, nil}, {`\b`, "a", 1, list(1)}, {`\b`, "aa", 1, nil}, {`\B`, "aa", 1, list(1)}, {`\B`, "a", 0, nil},
		{"ab", "ab", 0, list(2)}, {"ab", "aab", 0, nil}, {"a^", "a", 0, nil}, {"a$", "a", 0, list(1)},
		{"a|b", "b", 0, list(1)}, {"a|b|ab|", "ab", 0, list(1, 2, 0)}, {"ab|a|", "ab", 0, list(2, 1, 0)}, {"|a|ab", "ab", 0, list(0, 1, 2)}, {"a|a", "a", 0, list(1)}, {"|", "", 0, list(0)},
		{"(?:a|ab)(?:c|bcd|)", "abcd", 0, list(4, 1, 3, 2)}, {"(?:ab|a)(?:c|bcd|)", "abcd", 0, list(3, 2, 4, 1)},
		{"a?", "a", 0, list(1, 0)}, {"a??", "a", 0, list(0, 1)}, {"a?", "b", 0, list(0)}, {"a?a?", "aa", 0, list(2, 1, 0)}, {"a??a?", "aa", 0, list(1, 0, 2)}, {"a?a??", "aa", 0, list(1, 2, 0)}, {"(?:)?", "", 0, list(0)},
		{"a*", "aab", 0, list(2, 1, 0)}, {"a*?", "aab", 0, list(0, 1, 2)}, {"a*", "b", 0, list(0)}, {"(?:ab)*", "ababa", 0, list(4, 2, 0)}, {"(?:)*", "a", 0, list(0)}, {"(?:a|ab)*", "aab", 0, list(2, 3, 1, 0)}, {"(?:ab|a)*?", "aab", 0, list(0, 1, 3, 2)},
		{"a+", "aab", 0, list(2, 1)}, {"a+?", "aab", 0, list(1, 2)}, {"a+", "b", 0, nil}, {"(?:)+", "a", 1, list(1)}, {"(?:|a)+", "aa", 0, list(0, 2, 1)}, {"(?:a|)+", "aa", 0, list(2, 1, 0)}, {"(?:|a)+?", "aa", 0, list(0, 1, 2)},
		{"(?:|a)*", "aa", 0, list(2, 1, 0)}, {"(?:|a)*?", "aa", 0, list(0, 1, 2)}, {"(?:a*)*", "aa", 0, list(2, 1, 0)}, {"(?:a*?)*", "aa", 0, list(1, 2, 0)}, {"(?:a*)*?", "aa", 0, list(0, 2, 1)}, {"(?:a?)+b?", "aab", 0, list(3, 2, 1, 0)},
		{"(a)", "a", 0, list(1)}, {"(|a)(b?)", "ab", 0, list(0, 2, 1)}, {"a{2}", "aaa", 0, list(2)}, {"a{1,3}", "aaaa", 1, list(4, 3, 2)}, {"a{1,3}?", "aaaa", 1, list(2, 3, 4)}, {"a{2,}", "aaaa", 0, list(4, 3, 2)},
		{"^*a", "a", 0, list(1)}, {"(?:^a)*", "aa", 0, list(1, 0)}, {"(?:a$)?", "ab", 0, list(0)},
	} {
		n := tree(t, x.pattern)
		ways, e := denote.Ways(n, x.s, x.at)
		var got []int
		for _, w := range ways {
			got = append(got, w.End)
			if w.Caps[0] != x.at || w.Caps[1] != w.End || len(w.Caps) != 2+2*syntax.Groups(n) {
				t.Errorf("Ways(%q, %q, %d) has %v", x.pattern, x.s, x.at, w)
			}
		}
		if e != api.OK || !slices.Equal(got, x.want) {
			t.Errorf("Ways(%q, %q, %d) is %v, %d, not %v", x.pattern, x.s, x.at, got, e, x.want)
		}
		check(t, n, x.s)
	}
}

// P7.3, P7.4: patterns by hand, and what is found first, the chapter's example
// and the whole's ahead.
func TestFind(t *testing.T) {
	for _, x := range []struct {
		pattern, s string
		want       []int
	}{
		{"(a*)(b)", "aab", list(0, 3, 0, 2, 2, 3)}, {"(a*)(b)", "caab", list(1, 4, 1, 3, 3, 4)},
		{"", "", list(0, 0)}, {"", "\xff", list(0, 0)}, {"$", "aé", list(3, 3)}, {"a", "", nil}, {"a", "bb", nil}, {"^a", "ba", nil}, {"a*", "baa", list(0, 0)}, {"a+", "baa", list(1, 3)},
		{"é", "\xc3é", list(1, 3)}, {"\ufffd", "é\xff", list(2, 3)}, {"[é-€]", "aé", list(1, 3)},
		{"(a)|(b)", "cb", list(1, 2, -1, -1, 1, 2)}, {"(a|b)*c", "abac", list(0, 4, 2, 3)}, {"((a)|b)*", "ab", list(0, 2, 1, 2, 0, 1)},
		{"(a*)*", "b", list(0, 0, -1, -1)}, {"(a*)+", "b", list(0, 0, 0, 0)}, {"(a*)*", "aa", list(0, 2, 0, 2)}, {"(a*)+", "aa", list(0, 2, 0, 2)}, {"(|a)*", "aa", list(0, 2, 1, 2)}, {"(|a)+", "aa", list(0, 0, 0, 0)}, {"()*", "a", list(0, 0, -1, -1)}, {"()+", "a", list(0, 0, 0, 0)}, {"()?", "a", list(0, 0, 0, 0)}, {"()??", "a", list(0, 0, -1, -1)},
		{"(a?)*?b", "aab", list(0, 3, 1, 2)}, {"(a?)+?b", "aab", list(0, 3, 1, 2)}, {"(a+?)(a*)", "aaa", list(0, 3, 0, 1, 1, 3)}, {"(a+)(a*?)", "aaa", list(0, 3, 0, 3, 3, 3)}, {"(a)??(a?)", "a", list(0, 1, -1, -1, 0, 1)},
		{"(a|ab)(c|bcd)(d*)", "abcd", list(0, 4, 0, 1, 1, 4, 4, 4)}, {"(a){2}", "aaa", list(0, 2, 1, 2)}, {"(a){1,3}b", "aab", list(0, 3, 1, 2)},
	} {
		n := tree(t, x.pattern)
		if got, ok := denote.Find(n, x.s); !slices.Equal(got, x.want) || ok != (x.want != nil) {
			t.Errorf("Find(%q, %q) is %v, %v, not %v", x.pattern, x.s, got, ok, x.want)
		}
		check(t, n, x.s)
	}
}

// P7.3, P7.4: nothing is told of a node that is not simple, nor at what is no
// place.
func TestWrong(t *testing.T) {
	nothing := func(n syntax.Node, s string, at int) {
		t.Helper()
		if ways, e := denote.Ways(n, s, at); len(ways) != 0 || e != api.ErrArg {
			t.Errorf("Ways(%s, %q, %d) is %v, %d", show(n), s, at, ways, e)
		}
	}
	for _, n := range []syntax.Node{
		{Kind: 77}, {Kind: -1}, {Kind: 10}, {Min: 1}, {Lazy: true}, {Group: 1}, {Class: a.Class},
		of(syntax.One), {Kind: syntax.One, Class: class.Class{{Low: 'b', High: 'a'}}}, of(syntax.End, a),
		of(syntax.Cat), of(syntax.Cat, a), of(syntax.Alt), of(syntax.Alt, a), lazy(of(syntax.Cat, a, a)),
		often(0, -1), often(0, 1, a, a), often(0, 0, a), often(1, 1, a), often(2, 2, a), often(0, 2, a), often(1, 2, a), often(2, -1, a), often(-1, -1, a), often(0, 21, a), often(0, -2, a),
		group(0, a), group(9, a), group(-1, a), group(math.MaxInt, a), group(math.MinInt, a), group(1), group(1, a, a),
	} {
		for _, whole := range []syntax.Node{n, group(1, n), of(syntax.Cat, a, n), of(syntax.Alt, a, n), star(n), lazy(opt(n))} {
			for _, s := range []string{"", "a", "aa"} {
				for at := -1; at <= len(s)+1; at++ {
					nothing(whole, s, at)
				}
				if got, ok := denote.Find(whole, s); len(got) != 0 || ok {
					t.Errorf("Find(%s, %q) is %v, %v", show(whole), s, got, ok)
				}
			}
		}
	}
	for _, n := range []syntax.Node{of(syntax.Empty), a, star(a), group(1, of(syntax.End))} {
		for _, at := range list(-1, 1, 3, 4, 6, math.MinInt, math.MaxInt) {
			nothing(n, "é€", at)
		}
		nothing(n, "", 1)
		if _, e := denote.Ways(n, "é€", 2); e != api.OK {
			t.Errorf("Ways(%s) at a place is %d", show(n), e)
		}
	}
}

// P7.5: no place is told twice, though there are more ways to it than could be
// gone.
func TestEndsOnce(t *testing.T) {
	for _, pattern := range []string{"(a*)*", "(?:a*)*(?:a*)*(a*)*", "(?:(?:a|a)*|a*)*", "(?:(?:a?){19}){10}", "(?:(?:(?:a+)+)+)+a*?", "(|a|aa|aaa)*(a*)+", "(?:a*?a*)*?"} {
		const long = 300
		n, s := tree(t, pattern), strings.Repeat("a", long)
		for _, at := range list(0, 7, long) {
			ways, e := denote.Ways(n, s, at)
			ends := map[int]bool{}
			for _, w := range ways {
				ends[w.End] = true
			}
			if e != api.OK || len(ends) != len(ways) || len(ends) < min(190, long-at) {
				t.Errorf("Ways(%q, %d) is %d, and has %d of %d ends", pattern, at, e, len(ways), len(ends))
			}
		}
		if got, ok := denote.Find(of(syntax.Cat, n, b), s); ok {
			t.Errorf("Find(%q and b) is %v", pattern, got)
		}
	}
}

// P7.3: a node that stands more than once, with its kids in one memory, is
// another one each time.
func TestSharedKids(t *testing.T) {
	kids := []syntax.Node{a, opt(b)}
	cat := of(syntax.Cat, kids...)
	for _, n := range []syntax.Node{of(syntax.Cat, cat, cat), of(syntax.Alt, of(syntax.Cat, cat, cat), cat), of(syntax.Cat, group(1, cat), group(2, cat)), opt(of(syntax.Cat, cat, opt(cat))), of(syntax.Cat, star(cat), plus(cat))} {
		for _, s := range []string{"", "a", "aa", "ab", "aab", "abab", "ababab"} {
			check(t, n, s)
		}
	}
	if got, ok := denote.Find(of(syntax.Cat, many(3, group(1, of(syntax.Alt, many(2, star(a))...)))...), "aa"); !ok || !slices.Equal(got, list(0, 2, 2, 2)) {
		t.Errorf("Find of what stands three times is %v", got)
	}
}

// P1 of the whole: every call ends, of texts that are long: what is done does
// not grow with the square of their length, and calls stand no deeper in one
// another, which would end the program.
func TestLong(t *testing.T) {
	defer debug.SetMaxStack(debug.SetMaxStack(1 << 24))
	const long = 1 << 19
	s := strings.Repeat("a", long)
	for _, x := range []struct {
		pattern string
		want    []int
	}{
		{"a*", list(0, long)}, {"a*?$", list(0, long)}, {"(a)*", list(0, long, long-1, long)}, {"(?:a*)*b", nil}, {"a+b", nil}, {"ab", nil}, {"(|a)+b", nil}, {"b*$", list(long, long)}, {"(?:a|b)+?$", list(0, long)},
	} {
		if got, ok := denote.Find(tree(t, x.pattern), s); ok != (x.want != nil) || !slices.Equal(got, x.want) {
			t.Errorf("Find(%q) of a long text is %v", x.pattern, got)
		}
	}
	ways, e := denote.Ways(star(group(1, a)), s, 1)
	if e != api.OK || len(ways) != long {
		t.Fatalf("there are %d ways, %d", len(ways), e)
	}
	for i, w := range ways[:long-1] {
		if end := long - i; w.End != end || !slices.Equal(w.Caps, list(1, end, end-1, end)) {
			t.Fatalf("way %d is %v", i, w)
		}
	}
}

// P1 of the whole: every call ends, of nodes that stand as deep in one another
// as they may, and of many beside one another.
func TestDeepAndWide(t *testing.T) {
	const most = 100000
	nest := func(by func(n syntax.Node) syntax.Node, times int) syntax.Node {
		n := a
		for range times {
			n = by(n)
		}
		return n
	}
	empty, row := of(syntax.Empty), strings.Repeat("a", most)
	for i, x := range []struct {
		n    syntax.Node
		s    string
		want []int
	}{
		{nest(func(n syntax.Node) syntax.Node { return group(1, n) }, most-1), "ba", list(1, 2, 1, 2)},
		{nest(star, most-1), "aab", list(0, 2)},
		{nest(func(n syntax.Node) syntax.Node { return lazy(star(n)) }, most-1), "aab", list(0, 0)},
		{nest(plus, most-1), "baab", list(1, 3)},
		{nest(opt, most-1), "aab", list(0, 1)},
		{nest(func(n syntax.Node) syntax.Node { return of(syntax.Cat, n, empty) }, most-1), "ba", list(1, 2)},
		{nest(func(n syntax.Node) syntax.Node { return of(syntax.Cat, empty, n) }, most-1), "ba", list(1, 2)},
		{nest(func(n syntax.Node) syntax.Node { return of(syntax.Alt, n, b) }, most-1), "ca", list(1, 2)},
		{nest(func(n syntax.Node) syntax.Node { return of(syntax.Alt, b, n) }, most-1), "ca", list(1, 2)},
		{nest(func(n syntax.Node) syntax.Node { return opt(of(syntax.Cat, a, n)) }, most/2-1), row, list(0, most/2)},
		{of(syntax.Cat, many(10*most, empty)...), "a", list(0, 0)},
		{of(syntax.Cat, many(most, a)...), "b" + row, list(1, most+1)},
		{of(syntax.Cat, many(most, opt(a))...), "aa", list(0, 2)},
		{star(of(syntax.Alt, many(most/100, a)...)), row[:most/100], list(0, most/100)},
		{of(syntax.Cat, of(syntax.Alt, many(10*most, a)...), b), "aab", list(1, 3)},
	} {
		got, ok := denote.Find(x.n, x.s)
		if !ok || !slices.Equal(got, x.want) {
			t.Errorf("%d: Find is %v, %v, not %v", i, got, ok, x.want)
		}
	}
	if _, e := denote.Ways(nest(func(n syntax.Node) syntax.Node { return often(1, 1, n) }, most-1), "a", 0); e != api.ErrArg {
		t.Errorf("Ways of what is deep and not simple is %d", e)
	}
}

// P3, P4 of the whole: nothing that is handed in is written into, what is told
// is new memory, none of it shared, and told the same each time.
func TestMemory(t *testing.T) {
	ranges := class.Class{{Low: 'a', High: 'b'}, {Low: 'x', High: 'x'}}
	kids := []syntax.Node{star(group(1, syntax.Node{Kind: syntax.One, Class: ranges[:1]})), lazy(opt(a)), of(syntax.Alt, group(2, a), b, of(syntax.Empty)), a}
	n, before := of(syntax.Cat, kids[:3]...), show(of(syntax.Cat, kids...))+class.Put(ranges)
	const s = "abaab"
	want := plainWays(n, s, 1)
	for range 3 {
		ways, _ := denote.Ways(n, s, 1)
		found, _ := denote.Find(n, s[1:])
		if !same(ways, want) || len(found) != 6 {
			t.Fatalf("Ways is %v, not %v; Find is %v", ways, want, found)
		}
		for i := range ways {
			clear(ways[i].Caps[:cap(ways[i].Caps)])
			ways[i].Caps = nil
			if !same(ways[i+1:], want[i+1:]) {
				t.Fatalf("what way %d has is shared: %v is left", i, ways[i+1:])
			}
		}
		clear(ways[:cap(ways)])
		clear(found[:cap(found)])
	}
	if got := show(of(syntax.Cat, kids...)) + class.Put(ranges); got != before {
		t.Errorf("handed in was %s, is %s", before, got)
	}
}
