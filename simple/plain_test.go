package simple_test

import (
	"slices"
	"strconv"
	"strings"
	"testing"

	"waxwork/api"
	"waxwork/class"
	"waxwork/simple"
	"waxwork/syntax"
)

// The chapter's rules once more, over texts alone: what a node comes to is a
// text, or a list of them, of one kind. It shares nothing with Of.

// The kinds of a plain.
const (
	isText = iota
	isSequence
	isChoice
)

// plain is what a node comes to: one text, or more of them (or none).
type plain struct {
	kind  int
	parts []string
}

func (p plain) String() string {
	switch {
	case p.kind == isText:
		return p.parts[0]
	case p.kind == isChoice:
		return "Alt(" + strings.Join(p.parts, ", ") + ")"
	case len(p.parts) == 0:
		return "Empty"
	}
	return "Cat(" + strings.Join(p.parts, ", ") + ")"
}

// size counts the nodes of a text: the first, and each behind a bracket or a
// comma with a space (those of a class have none).
func (p plain) size() int {
	text := p.String()
	return 1 + strings.Count(text, "(") + strings.Count(text, ", ")
}

// plainText is a text with what stands in brackets behind a name.
func plainText(name string, in ...plain) plain {
	if len(in) > 0 {
		name += "(" + in[0].String() + ")"
	}
	return plain{kind: isText, parts: []string{name}}
}

// plainJoin is l as a sequence, or as a choice.
func plainJoin(kind int, l []plain) plain {
	out, last := plain{kind: kind}, plain{}
	for _, p := range l {
		if p.kind == kind {
			out.parts = append(out.parts, p.parts...)
		} else {
			out.parts = append(out.parts, p.String())
		}
		if p.String() != "Empty" {
			last = p
		}
	}
	if kind == isSequence && len(out.parts) == 1 {
		return last // it may be a choice
	}
	return out
}

// plainOf is what n comes to; big is set, if that, or what is in it, is too
// large.
func plainOf(n syntax.Node, big *bool) plain {
	var kids []plain
	for _, kid := range n.Kids {
		k := plainOf(kid, big)
		if *big {
			return plain{}
		}
		kids = append(kids, k)
	}
	var out plain
	switch n.Kind {
	case syntax.Empty:
		out = plain{kind: isSequence}
	case syntax.Cat:
		out = plainJoin(isSequence, kids)
	case syntax.Alt:
		out = plainJoin(isChoice, kids)
	case syntax.Repeat:
		out = plainRepeat(n, kids[0])
	case syntax.Group:
		out = plainText("Group "+strconv.Itoa(n.Group), kids...)
	default:
		out = plainText(show(n))
	}
	*big = out.size() > 400
	return out
}

// plainRepeat is k, as often as n tells.
func plainRepeat(n syntax.Node, k plain) plain {
	name := func(times string) string {
		if n.Lazy {
			times += " lazy"
		}
		return "Repeat " + times
	}
	switch {
	case n.Max < 0 && n.Min == 0:
		return plainText(name("0 -1"), k)
	case n.Max < 0:
		last := plainText(name("1 -1"), k)
		return plainJoin(isSequence, append(slices.Repeat([]plain{k}, max(0, n.Min-1)), last))
	}
	var opts []plain // none, or one, in which all those behind it stand
	for range n.Max - n.Min {
		opts = []plain{plainText(name("0 1"), plainJoin(isSequence, append([]plain{k}, opts...)))}
	}
	return plainJoin(isSequence, append(slices.Repeat([]plain{k}, n.Min), opts...))
}

// show tells every field of n and all below it.
func show(n syntax.Node) string {
	names := []string{"Empty", "One", "Begin", "End", "Edge", "Inner", "Cat", "Alt", "Repeat", "Group"}
	out := strconv.Itoa(n.Kind)
	if 0 <= n.Kind && n.Kind < len(names) {
		out = names[n.Kind]
	}
	if len(n.Class) > 0 {
		out += " " + class.Put(n.Class)
	}
	if n.Min != 0 || n.Max != 0 || n.Kind == syntax.Repeat {
		out += " " + strconv.Itoa(n.Min) + " " + strconv.Itoa(n.Max)
	}
	if n.Lazy {
		out += " lazy"
	}
	if n.Group != 0 {
		out += " " + strconv.Itoa(n.Group)
	}
	if len(n.Kids) == 0 {
		return out
	}
	var kids []string
	for _, kid := range n.Kids {
		kids = append(kids, show(kid))
	}
	return out + "(" + strings.Join(kids, ", ") + ")"
}

// check holds what Of tells of a right n against the chapter's rules, and
// answers whether it is not too large.
func check(t *testing.T, n syntax.Node) bool {
	t.Helper()
	before, big := show(n), false
	plain := plainOf(n, &big)
	got, e := simple.Of(n)
	if show(n) != before {
		t.Fatalf("%s was written into: %s", before, show(n))
	}
	if big {
		if e != api.ErrBig || show(got) != "Empty" {
			t.Fatalf("Of(%s) is %s, %d, and it is too large", before, show(got), e)
		}
		return false
	}
	want := plain.String()
	if e != api.OK || show(got) != want {
		t.Fatalf("Of(%s) is %s, %d, not %s", before, show(got), e, want)
	}
	if !simple.Is(got) {
		t.Fatalf("Of(%s) is not simple: %s", before, want)
	}
	again, e := simple.Of(got)
	if e != api.OK || !syntax.Same(again, got) {
		t.Fatalf("Of(%s) is %s, %d", want, show(again), e)
	}
	return true
}
