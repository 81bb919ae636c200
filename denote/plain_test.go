package denote_test

import (
	"iter"
	"slices"
	"strconv"
	"strings"
	"testing"
	"unicode/utf8"

	"waxwork/api"
	"waxwork/class"
	"waxwork/denote"
	"waxwork/syntax"
)

// The chapter's rules once more: a node is what hands on each place where it is
// through, and what stands behind it is the body of a range. It shares nothing
// with Ways, nor with package runes.

// caps are a way's, of as many groups as there may be; all of them are copied
// wherever a way goes on.
type caps [2 + 2*api.MaxGroups]int

// plain is a text that is gone through, and what was done at which place.
type plain struct {
	s    string
	done map[string]bool
}

// first tells whether this was never done, to the node of that name, at at.
func (p plain) first(what, name string, at int) bool {
	key := what + name + " " + strconv.Itoa(at)
	was := p.done[key]
	p.done[key] = true
	return !was
}

// ask is where n is through, each time, with which Caps.
func (p plain) ask(n syntax.Node, name string, at int, c caps) iter.Seq2[int, caps] {
	return func(yield func(int, caps) bool) {
		if !p.first("asked", name, at) {
			return
		}
		switch n.Kind {
		case syntax.Empty:
			yield(at, c)
		case syntax.One:
			if r, size := utf8.DecodeRuneInString(p.s[at:]); size > 0 && n.Class.Has(r) {
				yield(at+size, c)
			}
		case syntax.Cat:
			p.behind(n, name, 0, at, c, yield)
		case syntax.Alt:
			for i := range n.Kids {
				p.kid(n, name, i, at, c)(yield)
			}
		case syntax.Repeat:
			p.repeat(n, name, at, c, yield)
		case syntax.Group:
			c[2*n.Group] = at
			for end, c := range p.kid(n, name, 0, at, c) {
				if p.first("closed", name, end) {
					c[2*n.Group+1] = end
					yield(end, c)
				}
			}
		default:
			if plainHolds(n.Kind, p.s, at) {
				yield(at, c)
			}
		}
	}
}

// kid is where a kid of n is through.
func (p plain) kid(n syntax.Node, name string, which, at int, c caps) iter.Seq2[int, caps] {
	return p.ask(n.Kids[which], name+"."+strconv.Itoa(which), at, c)
}

// behind asks the kids of a Cat from that one on.
func (p plain) behind(n syntax.Node, name string, which, at int, c caps, yield func(int, caps) bool) {
	if which == len(n.Kids) {
		yield(at, c)
		return
	}
	for end, c := range p.kid(n, name, which, at, c) {
		p.behind(n, name, which+1, end, c, yield)
	}
}

// repeat is an opt, a star or a plus.
func (p plain) repeat(n syntax.Node, name string, at int, c caps, yield func(int, caps) bool) {
	self := func() { yield(at, c) }
	switch {
	case n.Max == 1:
		p.inOrder(n.Lazy, func() { p.kid(n, name, 0, at, c)(yield) }, self)
	case n.Min == 0:
		p.inOrder(n.Lazy, func() {
			for end, c := range p.kid(n, name, 0, at, c) {
				p.ask(n, name, end, c)(yield)
			}
		}, self)
	default:
		for end, c := range p.kid(n, name, 0, at, c) {
			p.turn(n, name, end, c, yield)
		}
	}
}

// turn is what a plus does where its kid was through.
func (p plain) turn(n syntax.Node, name string, at int, c caps, yield func(int, caps) bool) {
	if !p.first("turned", name, at) {
		return
	}
	p.inOrder(n.Lazy, func() {
		for end, c := range p.kid(n, name, 0, at, c) {
			p.turn(n, name, end, c, yield)
		}
	}, func() { yield(at, c) })
}

func (p plain) inOrder(lazy bool, kid, self func()) {
	if lazy {
		self()
		kid()
		return
	}
	kid()
	self()
}

// plainPlaces are those between the runes of s, and at its ends.
func plainPlaces(s string) []int {
	var out []int
	for at := range s {
		out = append(out, at)
	}
	return append(out, len(s))
}

// plainHolds is what is asked of a place alone. What is of a word has one byte.
func plainHolds(kind int, s string, at int) bool {
	if !slices.Contains(plainPlaces(s), at) {
		return false
	}
	words := func(s string) bool {
		return strings.Trim(s, "0123456789_abcdefghijklmnopqrstuvwxyzABCDEFGHIJKLMNOPQRSTUVWXYZ") == "" && s != ""
	}
	isEdge := words(s[max(0, at-1):at]) != words(s[at:min(at+1, len(s))])
	return kind == syntax.Begin && at == 0 || kind == syntax.End && at == len(s) ||
		kind == syntax.Edge && isEdge || kind == syntax.Inner && !isEdge
}

// plainWays are all ways of a simple n from at on.
func plainWays(n syntax.Node, s string, at int) []denote.Way {
	p, c := plain{s: s, done: map[string]bool{}}, caps{}
	for i := range c {
		c[i] = -1
	}
	c[0] = at
	var out []denote.Way
	for end, c := range p.ask(n, "", at, c) {
		if p.first("through", "", end) {
			c[1] = end
			out = append(out, denote.Way{End: end, Caps: slices.Clone(c[:2+2*syntax.Groups(n)])})
		}
	}
	return out
}

// same tells whether both are the same ways in the same order.
func same(a, b []denote.Way) bool {
	return slices.EqualFunc(a, b, func(a, b denote.Way) bool { return a.End == b.End && slices.Equal(a.Caps, b.Caps) })
}

// check holds all that is told of a simple n and s against the chapter's rules.
func check(t *testing.T, n syntax.Node, s string) {
	t.Helper()
	var first []int
	for _, at := range plainPlaces(s) {
		want := plainWays(n, s, at)
		got, e := denote.Ways(n, s, at)
		if e != api.OK || !same(got, want) {
			t.Fatalf("Ways(%s, %q, %d) is %v, %d, not %v", show(n), s, at, got, e, want)
		}
		if first == nil && len(want) > 0 {
			first = want[0].Caps
		}
	}
	if got, ok := denote.Find(n, s); ok != (first != nil) || !slices.Equal(got, first) {
		t.Fatalf("Find(%s, %q) is %v, %v, not %v", show(n), s, got, ok, first)
	}
}

// show tells every field of n and all below it.
func show(n syntax.Node) string {
	names := []string{"Empty", "One", "Begin", "End", "Edge", "Inner", "Cat", "Alt", "Repeat", "Group"}
	out := strconv.Itoa(n.Kind)
	if 0 <= n.Kind && n.Kind < len(names) {
		out = names[n.Kind]
	}
	if len(n.Class) > 0 {
		out += " " + class.Put(n.Class)
	}
	if n.Min != 0 || n.Max != 0 || n.Kind == syntax.Repeat {
		out += " " + strconv.Itoa(n.Min) + " " + strconv.Itoa(n.Max)
	}
	if n.Lazy {
		out += " lazy"
	}
	if n.Group != 0 {
		out += " " + strconv.Itoa(n.Group)
	}
	if len(n.Kids) == 0 {
		return out
	}
	var kids []string
	for _, kid := range n.Kids {
		kids = append(kids, show(kid))
	}
	return out + "(" + strings.Join(kids, ", ") + ")"
}
