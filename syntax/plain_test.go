package syntax_test

import (
	"regexp"
	"strconv"
	"strings"
	"testing"
	"unicode/utf8"

	"waxwork/api"
	"waxwork/class"
	"waxwork/syntax"
)

// The chapter's rules once more, as forms of tokens, and as a tree that is got
// by splitting at them: plainFault and plainTree share nothing with Parse.

// What a token is; the forms stand in the order in which they are tried.
const (
	isOpen  = "open"
	isClose = "close"
	isOr    = "or"
	isOften = "often"
	isAtom  = "atom"
	isWrong = "wrong"
)

const (
	oneEscape  = `\\[\\.\[\]()*+?{}|^$\-ntdws]`
	member     = `(?:[^\\\]\-^]|` + oneEscape + `)`
	howOften   = `(?:[0-9]|1[0-9]|20)`
	plainItem  = member + `(?:-` + member + `)?`
	plainOften = `(?:[*+?]|\{` + howOften + `\}|\{` + howOften + `,\}|\{` + howOften + `,` + howOften + `\})\??`
)

type form struct {
	kind string
	text *regexp.Regexp
}

var forms = []form{
	{isOpen, regexp.MustCompile(`^\((?:\?:)?`)},
	{isClose, regexp.MustCompile(`^\)`)},
	{isOr, regexp.MustCompile(`^\|`)},
	{isOften, regexp.MustCompile(`^` + plainOften)},
	{isAtom, regexp.MustCompile(`^\\[bB]`)},
	{isAtom, regexp.MustCompile(`^` + oneEscape)},
	{isAtom, regexp.MustCompile(`^\[\^?(?:` + plainItem + `)+\]`)},
	{isAtom, regexp.MustCompile(`(?s)^[^\\\[\]()*+?{}|]`)},
}

var (
	items   = regexp.MustCompile(plainItem)
	members = regexp.MustCompile(member)
)

type token struct {
	kind, text string
	group      int // of an open one, its number; 0, if it has none
}

// plainToken is what s begins with, by its form, and by what it has to mean.
func plainToken(s string) token {
	for _, f := range forms {
		text := f.text.FindString(s)
		if text == "" {
			continue
		}
		if !utf8.ValidString(text) || f.kind == isOften && falls(text) || text[0] == '[' && !plainMayBe(text) {
			return token{kind: isWrong}
		}
		return token{kind: f.kind, text: text}
	}
	return token{kind: isWrong}
}

// plainTimes are the numbers of `*`, `{2,3}?` and the like.
func plainTimes(text string) (least, most int) {
	switch text[0] {
	case '*':
		return 0, -1
	case '+':
		return 1, -1
	case '?':
		return 0, 1
	}
	first, second, two := strings.Cut(strings.Trim(text, "{}?"), ",")
	least, _ = strconv.Atoi(first)
	switch {
	case !two:
		return least, least
	case second == "":
		return least, -1
	}
	most, _ = strconv.Atoi(second)
	return least, most
}

func falls(text string) bool {
	least, most := plainTimes(text)
	return most != -1 && most < least
}

// plainMember is what a member, or an atom of one, stands for.
func plainMember(text string) class.Class {
	switch text {
	case `\n`:
		return class.Class{{Low: 10, High: 10}}
	case `\t`:
		return class.Class{{Low: 9, High: 9}}
	case `\d`:
		return class.Class{{Low: '0', High: '9'}}
	case `\w`:
		return class.Class{{Low: '0', High: '9'}, {Low: 'A', High: 'Z'}, {Low: '_', High: '_'}, {Low: 'a', High: 'z'}}
	case `\s`:
		return class.Class{{Low: 9, High: 10}, {Low: 13, High: 13}, {Low: 32, High: 32}}
	}
	l := []rune(text)
	r := l[len(l)-1]
	return class.Class{{Low: r, High: r}}
}

// plainEnds are the two ends of an item; false, if it may not be.
func plainEnds(item string) (class.Class, bool) {
	ends := members.FindAllString(item, -1)
	if len(ends) == 1 {
		return plainMember(item), true
	}
	low, high := plainMember(ends[0]), plainMember(ends[1])
	if low.Many() != 1 || high.Many() != 1 || low[0].Low > high[0].Low {
		return nil, false
	}
	return class.Class{{Low: low[0].Low, High: high[0].Low}}, true
}

// plainClass is what a text of a class's form stands for; nothing, if an item
// of it may not be.
func plainClass(text string) class.Class {
	within := text[1 : len(text)-1]
	not := strings.HasPrefix(within, "^")
	var all []class.Range
	for _, item := range items.FindAllString(strings.TrimPrefix(within, "^"), -1) {
		l, ok := plainEnds(item)
		if !ok {
			return nil
		}
		all = append(all, l...)
	}
	if not {
		return class.Not(all)
	}
	return class.Of(all...)
}

func plainMayBe(text string) bool {
	many := len(plainClass(text))
	return 1 <= many && many <= 64
}

// plainFault is where what is wrong first begins, and what it is; the tokens,
// if nothing is.
func plainFault(s string) (l []token, at int, e api.Errno) {
	if len(s) > 200 {
		return nil, 200, api.ErrBig
	}
	depth, groups, atom := 0, 0, false
	for at < len(s) {
		t := plainToken(s[at:])
		switch {
		case t.kind == isWrong, t.kind == isClose && depth == 0, t.kind == isOften && !atom:
			return nil, at, api.ErrParse
		case t.text == "(" && groups == 8:
			return nil, at, api.ErrBig
		case t.text == "(":
			groups++
			t.group = groups
			depth++
		case t.kind == isOpen:
			depth++
		case t.kind == isClose:
			depth--
		}
		atom = t.kind == isAtom || t.kind == isClose
		l = append(l, t)
		at += len(t.text)
	}
	if depth > 0 {
		return nil, at, api.ErrParse
	}
	return l, at, api.OK
}

// plainTree is the tokens of an expression as a node: in its bars, in its
// pieces.
func plainTree(l []token) syntax.Node {
	var kids []syntax.Node
	parts := plainSplit(l)
	for _, part := range parts {
		n := plainSequence(part)
		switch {
		case len(parts) == 1:
			return n
		case n.Kind == syntax.Alt:
			kids = append(kids, n.Kids...)
		default:
			kids = append(kids, n)
		}
	}
	return syntax.Node{Kind: syntax.Alt, Kids: kids}
}

// plainSplit are the tokens between the bars that stand in no bracket.
func plainSplit(l []token) [][]token {
	depth := 0
	for i, t := range l {
		switch t.kind {
		case isOpen:
			depth++
		case isClose:
			depth--
		case isOr:
			if depth == 0 {
				return append([][]token{l[:i]}, plainSplit(l[i+1:])...)
			}
		}
	}
	return [][]token{l}
}

// plainSequence is pieces, with what is no piece left out.
func plainSequence(l []token) syntax.Node {
	var kids []syntax.Node
	for len(l) > 0 {
		end := plainEnd(l)
		n := plainAtom(l[:end])
		l = l[end:]
		if len(l) > 0 && l[0].kind == isOften {
			text := l[0].text
			least, most := plainTimes(text)
			n = syntax.Node{Kind: syntax.Repeat, Min: least, Max: most, Lazy: len(text) > 1 && strings.HasSuffix(text, "?"), Kids: []syntax.Node{n}}
			l = l[1:]
		}
		switch n.Kind {
		case syntax.Empty:
		case syntax.Cat:
			kids = append(kids, n.Kids...)
		default:
			kids = append(kids, n)
		}
	}
	switch len(kids) {
	case 0:
		return syntax.Node{}
	case 1:
		return kids[0]
	}
	return syntax.Node{Kind: syntax.Cat, Kids: kids}
}

// plainEnd is where the atom that l begins with ends.
func plainEnd(l []token) int {
	depth := 0
	for i, t := range l {
		switch t.kind {
		case isOpen:
			depth++
		case isClose:
			depth--
		}
		if depth == 0 {
			return i + 1
		}
	}
	return len(l)
}

func plainAtom(l []token) syntax.Node {
	switch first := l[0]; {
	case first.group > 0:
		return syntax.Node{Kind: syntax.Group, Group: first.group, Kids: []syntax.Node{plainTree(l[1 : len(l)-1])}}
	case first.kind == isOpen:
		return plainTree(l[1 : len(l)-1])
	case first.text == "^":
		return syntax.Node{Kind: syntax.Begin}
	case first.text == "$":
		return syntax.Node{Kind: syntax.End}
	case first.text == `\b`:
		return syntax.Node{Kind: syntax.Edge}
	case first.text == `\B`:
		return syntax.Node{Kind: syntax.Inner}
	case first.text == ".":
		return syntax.Node{Kind: syntax.One, Class: class.Class{{Low: 0, High: 9}, {Low: 11, High: 0x10ffff}}}
	case first.text[0] == '[':
		return syntax.Node{Kind: syntax.One, Class: plainClass(first.text)}
	default:
		return syntax.Node{Kind: syntax.One, Class: plainMember(first.text)}
	}
}

// show tells every field of n and all below it.
func show(n syntax.Node) string {
	names := []string{"Empty", "One", "Begin", "End", "Edge", "Inner", "Cat", "Alt", "Repeat", "Group"}
	out := strconv.Itoa(n.Kind)
	if 0 <= n.Kind && n.Kind < len(names) {
		out = names[n.Kind]
	}
	if len(n.Class) > 0 {
		out += " " + class.Put(n.Class)
	}
	if n.Min != 0 || n.Max != 0 || n.Kind == syntax.Repeat {
		out += " " + strconv.Itoa(n.Min) + " " + strconv.Itoa(n.Max)
	}
	if n.Lazy {
		out += " lazy"
	}
	if n.Group != 0 {
		out += " " + strconv.Itoa(n.Group)
	}
	if len(n.Kids) == 0 {
		return out
	}
	var kids []string
	for _, kid := range n.Kids {
		kids = append(kids, show(kid))
	}
	return out + "(" + strings.Join(kids, ", ") + ")"
}

// rightEnds tells whether all ends of n's Ranges are right runes.
func rightEnds(n syntax.Node) bool {
	for _, r := range n.Class {
		if !utf8.ValidRune(r.Low) || !utf8.ValidRune(r.High) {
			return false
		}
	}
	for _, kid := range n.Kids {
		if !rightEnds(kid) {
			return false
		}
	}
	return true
}

// checkPattern holds what Parse tells of s, and what Put tells of that, against
// the chapter's rules.
func checkPattern(t *testing.T, s string) {
	t.Helper()
	l, wantAt, wantE := plainFault(s)
	n, at, e := syntax.Parse(s)
	if at != wantAt || e != wantE {
		t.Fatalf("Parse(%q) is at %d, %d, not %d, %d", s, at, e, wantAt, wantE)
	}
	if e != api.OK {
		if show(n) != "Empty" {
			t.Fatalf("Parse(%q) tells %s beside %d", s, show(n), e)
		}
		return
	}
	if got, want := show(n), show(plainTree(l)); got != want {
		t.Fatalf("Parse(%q) is %s, not %s", s, got, want)
	}
	if !syntax.Right(n) {
		t.Fatalf("Parse(%q) is not right: %s", s, show(n))
	}
	checkBack(t, n)
}

// checkBack holds n against what is parsed of what is put of it.
func checkBack(t *testing.T, n syntax.Node) {
	t.Helper()
	s := syntax.Put(n)
	if len(s) > 200 || !rightEnds(n) {
		return
	}
	back, at, e := syntax.Parse(s)
	if e != api.OK || at != len(s) || show(back) != show(n) || !syntax.Same(back, n) {
		t.Fatalf("%s is put as %q, which is %s, %d, %d", show(n), s, show(back), at, e)
	}
}
