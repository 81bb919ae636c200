package syntax

import (
	"slices"
	"strconv"
	"strings"

	"waxwork/class"
	"waxwork/runes"
)

// Put is n as a pattern. All goes to one builder, as nodes may stand deep in
// one another.
func Put(n Node) (told string) {
	var out strings.Builder
	put(&out, n)
	return out.String()
}

// put goes by the kind alone, so that any node has a text.
func put(out *strings.Builder, n Node) {
	switch n.Kind {
	case One:
		putOne(out, n.Class)
	case Begin:
		out.WriteByte('^')
	case End:
		out.WriteByte('$')
	case Edge:
		out.WriteString(`\b`)
	case Inner:
		out.WriteString(`\B`)
	case Cat:
		putAll(out, n.Kids, "", Alt)
	case Alt:
		putAll(out, n.Kids, "|")
	case Repeat:
		putAll(out, n.Kids, "", Empty, Cat, Alt, Repeat)
		out.WriteString(often(n.Min, n.Max))
		if n.Lazy {
			out.WriteByte('?')
		}
	case Group:
		out.WriteByte('(')
		putAll(out, n.Kids, "")
		out.WriteByte(')')
	}
}

// putAll puts l with a mark between, and in brackets what is of such kinds.
func putAll(out *strings.Builder, l []Node, mark string, inBrackets ...int) {
	for i, n := range l {
		if i > 0 {
			out.WriteString(mark)
		}
		if !slices.Contains(inBrackets, n.Kind) {
			put(out, n)
			continue
		}
		out.WriteString("(?:")
		put(out, n)
		out.WriteByte(')')
	}
}

// putOne puts what stands for the runes of c.
func putOne(out *strings.Builder, c class.Class) {
	switch {
	case class.Same(c, dot()):
		out.WriteByte('.')
	case isSingle(c):
		putRune(out, c[0].Low, special)
	default:
		out.WriteByte('[')
		for _, r := range c {
			putRune(out, r.Low, specialInOne)
			if r.High != r.Low {
				out.WriteByte('-')
				putRune(out, r.High, specialInOne)
			}
		}
		out.WriteByte(']')
	}
}

// putRune puts r, which stands for something else there if it is one of other.
func putRune(out *strings.Builder, r rune, other string) {
	if strings.ContainsRune(other, r) {
		out.WriteByte('\\')
	}
	out.WriteString(runes.Put(r))
}

// often is the first form that fits for what is repeated so often.
func often(least, most int) string {
	switch {
	case least == 0 && most == endless:
		return "*"
	case least == 1 && most == endless:
		return "+"
	case least == 0 && most == 1:
		return "?"
	case least == most:
		return "{" + strconv.Itoa(least) + "}"
	case most == endless:
		return "{" + strconv.Itoa(least) + ",}"
	}
	return "{" + strconv.Itoa(least) + "," + strconv.Itoa(most) + "}"
}
