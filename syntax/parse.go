package syntax

import (
	"strconv"
	"strings"

	"waxwork/api"
	"waxwork/class"
	"waxwork/runes"
)

// fault is what is wrong with a pattern. It is told by a panic, from wherever
// it is found, and recovered in Parse.
type fault struct {
	at int
	e  api.Errno
}

// expression is one that is not through: the pattern, or what stands behind a
// bracket that is open.
type expression struct {
	group int    // its number; 0, if it is no group
	ahead []Node // its sequences that are through
	last  []Node // the pieces of the one that is not
	atom  bool   // whether the last piece may yet be repeated
}

// parser goes through a pattern from the left to the right, so that what is
// wrong first is found first.
type parser struct {
	s      string
	begin  int // where what is read begins: a fault within is told there
	at     int // behind all that was read
	groups int
	open   []expression // each within the one ahead; the pattern is the first
}

// Parse is s in normal form, or what is wrong with it, and where.
func Parse(s string) (n Node, at int, e api.Errno) {
	defer func() {
		if wrong, ok := recover().(fault); ok {
			at, e = wrong.at, wrong.e
		}
	}()
	if len(s) > api.MaxPattern {
		panic(fault{at: api.MaxPattern, e: api.ErrBig})
	}
	p := parser{s: s, open: []expression{{}}}
	return p.pattern(), len(s), api.OK
}

// pattern is all of it.
func (p *parser) pattern() Node {
	for at, r := range p.s {
		if at < p.at {
			continue // it was read with what begins ahead of it
		}
		p.begin = at
		p.goBy(r)
		p.take(r)
	}
	p.begin = len(p.s)
	if len(p.open) > 1 {
		p.wrong()
	}
	return p.inner().through()
}

// take adds to the inner expression what begins with r.
func (p *parser) take(r rune) {
	switch r {
	case '|':
		p.inner().turn()
	case '(':
		p.enter()
	case ')':
		p.leave()
	case '*':
		p.repeat(0, endless)
	case '+':
		p.repeat(1, endless)
	case '?':
		p.repeat(0, 1)
	case '{':
		p.repeat(p.times())
	case ']', '}':
		p.wrong()
	case '^':
		p.inner().add(Node{Kind: Begin})
	case '$':
		p.inner().add(Node{Kind: End})
	case '.':
		p.inner().add(Node{Kind: One, Class: dot()})
	case '\\':
		p.inner().add(p.escape())
	case '[':
		p.inner().add(Node{Kind: One, Class: p.class()})
	default:
		p.inner().add(Node{Kind: One, Class: single(r)})
	}
}

// enter begins an expression within the inner one.
func (p *parser) enter() {
	if p.next("?:") {
		p.open = append(p.open, expression{})
		return
	}
	p.groups++
	if p.groups > api.MaxGroups {
		panic(fault{at: p.begin, e: api.ErrBig})
	}
	p.open = append(p.open, expression{group: p.groups})
}

// leave ends the inner expression: it is an atom of the one about it.
func (p *parser) leave() {
	last := len(p.open) - 1
	if last == 0 {
		p.wrong()
	}
	n := p.open[last].through()
	if group := p.open[last].group; group > 0 {
		n = Node{Kind: Group, Group: group, Kids: []Node{n}}
	}
	p.open = p.open[:last]
	p.inner().add(n)
}

// repeat lets the atom just ahead be repeated so often.
func (p *parser) repeat(least, most int) {
	in := p.inner()
	if !in.atom {
		p.wrong()
	}
	piece := &in.last[len(in.last)-1]
	*piece = Node{Kind: Repeat, Min: least, Max: most, Lazy: p.next("?"), Kids: []Node{*piece}}
	in.atom = false
}

// times is how often the numbers behind a curly bracket let something be
// repeated.
func (p *parser) times() (least, most int) {
	least = p.number()
	if p.next("}") {
		return least, least
	}
	if p.next(",}") {
		return least, endless
	}
	if !p.next(",") {
		p.wrong()
	}
	most = p.number()
	if most < least || !p.next("}") {
		p.wrong()
	}
	return least, most
}

// number is the next one, if it may tell how often, and has no digit too many.
func (p *parser) number() int {
	rest := p.s[p.at:]
	text := rest[:len(rest)-len(strings.TrimLeft(rest, "0123456789"))]
	told, err := strconv.Atoi(text)
	if err != nil || told > api.MaxRepeat || strconv.Itoa(told) != text {
		p.wrong()
	}
	p.at += len(text)
	return told
}

// escape is what the rune behind a backslash stands for.
func (p *parser) escape() Node {
	r := p.rune()
	switch r {
	case 'n':
		return Node{Kind: One, Class: single('\n')}
	case 't':
		return Node{Kind: One, Class: single('\t')}
	case 'd':
		return Node{Kind: One, Class: digits()}
	case 'w':
		return Node{Kind: One, Class: words()}
	case 's':
		return Node{Kind: One, Class: spaces()}
	case 'b':
		return Node{Kind: Edge}
	case 'B':
		return Node{Kind: Inner}
	}
	if r != '-' && !strings.ContainsRune(special, r) {
		p.wrong()
	}
	return Node{Kind: One, Class: single(r)}
}

// class is what stands behind a square bracket, up to the one that ends it.
func (p *parser) class() class.Class {
	not := p.next("^")
	told := p.item()
	for !p.next("]") {
		told = class.Union(told, p.item())
	}
	if not {
		told = class.Not(told)
	}
	if !mayBeOne(told) {
		p.wrong()
	}
	return told
}

// item is the next member of a class, or all from it to another one.
func (p *parser) item() class.Class {
	low := p.member()
	if !p.next("-") {
		return low
	}
	high := p.member()
	if !isSingle(low) || !isSingle(high) || high[0].Low < low[0].Low {
		p.wrong()
	}
	return class.Of(class.Range{Low: low[0].Low, High: high[0].Low})
}

// member is the next one of a class.
func (p *parser) member() class.Class {
	r := p.rune()
	if r == '\\' {
		n := p.escape()
		if n.Kind != One {
			p.wrong()
		}
		return n.Class
	}
	if strings.ContainsRune(specialInOne, r) {
		p.wrong()
	}
	return single(r)
}

// rune is the next one, which there must be.
func (p *parser) rune() rune {
	r, ok := runes.At(p.s, p.at)
	if !ok {
		p.wrong()
	}
	p.goBy(r.R)
	return r.R
}

// goBy goes by r, which stands next. Where its bytes do not, it is Bad, and
// stands for a byte that is of no rune.
func (p *parser) goBy(r rune) {
	if !p.next(runes.Put(r)) {
		p.wrong()
	}
}

// next goes by text, if it stands next.
func (p *parser) next(text string) bool {
	if !strings.HasPrefix(p.s[p.at:], text) {
		return false
	}
	p.at += len(text)
	return true
}

// wrong ends all: what is read is none of what there may be.
func (p *parser) wrong() {
	panic(fault{at: p.begin, e: api.ErrParse})
}

// inner is the expression that no other one is open in.
func (p *parser) inner() *expression {
	return &p.open[len(p.open)-1]
}

// add puts an atom behind the pieces.
func (x *expression) add(atom Node) {
	x.last = append(x.last, atom)
	x.atom = true
}

// turn ends a sequence, and begins another one.
func (x *expression) turn() {
	x.ahead = append(x.ahead, sequence(x.last))
	x.last, x.atom = nil, false
}

// through is the whole expression.
func (x *expression) through() Node {
	x.turn()
	if len(x.ahead) == 1 {
		return x.ahead[0]
	}
	return Node{Kind: Alt, Kids: flat(Alt, x.ahead)}
}

// sequence is the pieces of l one behind the other. What is left out, or stands
// as its kids, is no piece to count.
func sequence(l []Node) Node {
	kids := flat(Cat, l)
	switch len(kids) {
	case 0:
		return Node{Kind: Empty}
	case 1:
		return kids[0]
	}
	return Node{Kind: Cat, Kids: kids}
}

// flat is l as the kids of a node of that kind: what is one itself stands as
// its kids, and what is Empty is nothing in a Cat.
func flat(kind int, l []Node) []Node {
	var told []Node
	for _, n := range l {
		switch {
		case n.Kind == kind:
			told = append(told, n.Kids...)
		case n.Kind != Empty || kind != Cat:
			told = append(told, n)
		}
	}
	return told
}
