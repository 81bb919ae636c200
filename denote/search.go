package denote

import (
	"slices"

	"waxwork/class"
	"waxwork/runes"
	"waxwork/syntax"
)

// unset is the place where a group begins, and ends, that was not come by.
const unset = -1

// word is how many places one number tells of.
const word = 64

// spot is where a way has come to, with its Caps. They are never written into,
// as other ways may go on with the same ones.
type spot struct {
	at   int
	caps []int
}

// step is what is done at a spot.
type step func(here spot)

// task is a step that is to be done.
type task struct {
	do   step
	here spot
}

// search is a pattern that goes through a text. It is made of steps, each of
// which has in it what stands behind it. A step calls no other one, but leaves
// it as a task: so calls stand no deeper in one another where a text is long.
type search struct {
	s     string
	none  []int // the Caps of a way that is to begin
	whole step
	tasks []task // the last one is done first, and all that it leaves
	ways  []Way
}

// newSearch is one of a simple n.
func newSearch(n syntax.Node, s string) *search {
	pairs := 1 + syntax.Groups(n)
	x := &search{s: s, none: slices.Repeat([]int{unset}, 2*pairs)}
	x.whole = x.ask(n, x.once(x.through))
	return x
}

// begin lets n be asked at at.
func (x *search) begin(at int) {
	x.then(x.whole, spot{at: at, caps: x.none}.set(0))
}

// next goes on to the next way; false, if there is none.
func (x *search) next() bool {
	many := len(x.ways)
	for len(x.tasks) > 0 && len(x.ways) == many {
		last := len(x.tasks) - 1
		t := x.tasks[last]
		x.tasks = x.tasks[:last]
		t.do(t.here)
	}
	return len(x.ways) > many
}

// then leaves do as the task that is done next.
func (x *search) then(do step, here spot) {
	x.tasks = append(x.tasks, task{do: do, here: here})
}

// through ends a way.
func (x *search) through(here spot) {
	x.ways = append(x.ways, Way{End: here.at, Caps: here.set(1).caps})
}

// once is do, but nothing at a place where it was done ahead. It goes by the
// place alone, as what comes of a step is told by nothing else.
func (x *search) once(do step) step {
	done := map[int]uint64{}
	return func(here spot) {
		bit := uint64(1) << (here.at % word)
		if done[here.at/word]&bit != 0 {
			return
		}
		done[here.at/word] |= bit
		x.then(do, here)
	}
}

// either is first, with all that comes of it, and then second.
func (x *search) either(first, second step) step {
	return func(here spot) {
		x.then(second, here)
		x.then(first, here)
	}
}

// ask is what asks n, where behind stands behind it.
func (x *search) ask(n syntax.Node, behind step) step {
	switch n.Kind {
	case syntax.Empty:
		return x.once(behind)
	case syntax.One:
		return x.once(x.one(n.Class, behind))
	case syntax.Cat:
		return x.once(x.row(n.Kids, behind))
	case syntax.Alt:
		return x.once(x.choice(n.Kids, behind))
	case syntax.Repeat:
		return x.repeat(n, behind)
	case syntax.Group:
		return x.once(x.group(n, behind))
	}
	return x.once(x.holds(n.Kind, behind))
}

// one goes by a rune of c.
func (x *search) one(c class.Class, behind step) step {
	return func(here spot) {
		if r, ok := runes.At(x.s, here.at); ok && c.Has(r.R) {
			x.then(behind, spot{at: here.at + r.Size, caps: here.caps})
		}
	}
}

// holds goes by nothing, but on only where a node of that kind lets it.
func (x *search) holds(kind int, behind step) step {
	return func(here spot) {
		if Holds(kind, x.s, here.at) {
			x.then(behind, here)
		}
	}
}

// row is all kids, one behind the other: what stands behind one is the next.
func (x *search) row(kids []syntax.Node, behind step) step {
	for _, kid := range slices.Backward(kids) {
		behind = x.ask(kid, behind)
	}
	return behind
}

// choice is any one of the kids. Those behind one are a single step, as they
// may be many, and wait at as many places as a way comes by.
func (x *search) choice(kids []syntax.Node, behind step) step {
	last := len(kids) - 1
	told := x.ask(kids[last], behind)
	for _, kid := range slices.Backward(kids[:last]) {
		told = x.either(x.ask(kid, behind), told)
	}
	return told
}

// repeat is an opt, a star or a plus. Behind the kid of a star stands the star;
// behind that of a plus its turn, which does what a star does where it is asked.
func (x *search) repeat(n syntax.Node, behind step) step {
	kid := n.Kids[0]
	if n.Max == 1 {
		return x.once(x.perhaps(n.Lazy, x.ask(kid, behind), behind))
	}
	var turn step
	more := x.ask(kid, func(here spot) { turn(here) })
	turn = x.once(x.perhaps(n.Lazy, more, behind))
	if n.Min == 0 {
		return turn
	}
	return x.once(more)
}

// perhaps is more, or on to what stands behind: the latter first, if it is lazy.
func (x *search) perhaps(lazy bool, more, behind step) step {
	if lazy {
		return x.either(behind, more)
	}
	return x.either(more, behind)
}

// group sets where it begins, and where it ends.
func (x *search) group(n syntax.Node, behind step) step {
	closed := x.once(func(here spot) { x.then(behind, here.set(2*n.Group+1)) })
	kid := x.ask(n.Kids[0], closed)
	return func(here spot) { x.then(kid, here.set(2*n.Group)) }
}

// set is the spot with its place as one of its Caps.
func (here spot) set(number int) spot {
	caps := slices.Clone(here.caps)
	caps[number] = here.at
	return spot{at: here.at, caps: caps}
}
