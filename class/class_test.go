package class_test

import (
	"math"
	"slices"
	"strconv"
	"testing"

	"waxwork/api"
	"waxwork/class"
	"waxwork/runes"
)

// many is how many runes there are, from 0 to the greatest.
const many = 0x110000

// of makes Ranges of their ends, two by two.
func of(ends ...rune) []class.Range {
	var out []class.Range
	for i := 0; i+1 < len(ends); i += 2 {
		out = append(out, class.Range{Low: ends[i], High: ends[i+1]})
	}
	return out
}

// single makes n Ranges of one rune each, with one rune between.
func single(n int) []class.Range {
	var out []class.Range
	for i := range n {
		out = append(out, class.Range{Low: rune(2 * i), High: rune(2 * i)})
	}
	return out
}

// near is how many runes at each end plain tells apart: all ends of ends are
// among them, so that those between are all in, or all out.
const near = 8

// cells are the runes from 0 to the greatest, as Ranges: one of each rune near
// an end, and one of all between.
func cells() []class.Range {
	var out []class.Range
	for r := rune(0); r < near; r++ {
		out = append(out, class.Range{Low: r, High: r})
	}
	out = append(out, class.Range{Low: near, High: many - 1 - near})
	for r := rune(many - near); r < many; r++ {
		out = append(out, class.Range{Low: r, High: r})
	}
	return out
}

// ends are where Ranges may begin and end, or may not.
func ends() []rune {
	return []rune{math.MinInt32, -1, 0, 1, 2, 4, 5, many - 3, many - 2, many - 1, many, math.MaxInt32}
}

// fewer are the ends that tell most.
func fewer() []rune {
	return []rune{-1, 0, 1, 3, many - 2, many - 1, many}
}

// between are all Ranges of these ends, those that may not be too.
func between(ends []rune) []class.Range {
	var out []class.Range
	for _, low := range ends {
		for _, high := range ends {
			out = append(out, class.Range{Low: low, High: high})
		}
	}
	return out
}

// plainMayBe is the chapter's rule for a Range.
func plainMayBe(r class.Range) bool {
	return r.Low >= 0 && r.High < many && r.Low <= r.High
}

// plainHas tells of each cell whether a Range of l that may be has it.
func plainHas(l []class.Range) []bool {
	var out []bool
	for _, cell := range cells() {
		has := false
		for _, r := range l {
			has = has || plainMayBe(r) && r.Low <= cell.Low && cell.High <= r.High
		}
		out = append(out, has)
	}
	return out
}

// plainRuns are the cells of which in says want, those side by side together.
func plainRuns(in []bool, want bool) []class.Range {
	var out []class.Range
	for i, cell := range cells() {
		switch {
		case in[i] != want:
		case i > 0 && in[i-1] == want:
			out[len(out)-1].High = cell.High
		default:
			out = append(out, cell)
		}
	}
	return out
}

// plainMany is how many runes are in the cells of which in says true.
func plainMany(in []bool) int {
	out := 0
	for i, cell := range cells() {
		if in[i] {
			out += int(cell.High) - int(cell.Low) + 1
		}
	}
	return out
}

// plainRight is the chapter's rule for a Class.
func plainRight(l []class.Range) bool {
	right := len(l) <= 64
	for i, r := range l {
		right = right && plainMayBe(r) && (i == 0 || int(r.Low) > int(l[i-1].High)+1)
	}
	return right
}

// checkClass holds each call of one class against the chapter's rules.
func checkClass(t *testing.T, l ...class.Range) {
	t.Helper()
	in := plainHas(l)
	want, not := plainRuns(in, true), plainRuns(in, false)
	if got := class.Of(l...); !slices.Equal(got, want) {
		t.Fatalf("Of(%v) is %v, not %v", l, got, want)
	}
	if got := class.Not(l); !slices.Equal(got, not) {
		t.Fatalf("Not(%v) is %v, not %v", l, got, not)
	}
	if got := class.Class(l).Many(); got != plainMany(in) {
		t.Fatalf("Many of %v is %d, not %d", l, got, plainMany(in))
	}
	if got := class.Right(l); got != plainRight(l) {
		t.Fatalf("Right(%v) is %t", l, got)
	}
	if got := class.Not(class.Not(l)); !slices.Equal(got, want) {
		t.Fatalf("twice Not of %v is %v, not %v", l, got, want)
	}
	for _, half := range []int{0, len(l) / 2, len(l)} {
		if got := class.Union(l[:half], l[half:]); !slices.Equal(got, want) {
			t.Fatalf("Union(%v, %v) is %v, not %v", l[:half], l[half:], got, want)
		}
	}
}

// P4.1, P4.2: Of, Many, Union and Not by hand, the chapter's example with them.
func TestByHand(t *testing.T) {
	for _, c := range []struct {
		l    []class.Range
		want string
		many int
		not  string
	}{
		{nil, "", 0, "0-10ffff"},
		{of('a', 'c'), "61-63", 3, "0-60,64-10ffff"}, // the chapter's example
		{of('a', 'a'), "61", 1, "0-60,62-10ffff"},
		{of('a', 'c', 'd', 'f'), "61-66", 6, "0-60,67-10ffff"},            // touching
		{of('d', 'f', 'a', 'c'), "61-66", 6, "0-60,67-10ffff"},            // touching, the greater one ahead
		{of('a', 'c', 'e', 'f'), "61-63,65-66", 5, "0-60,64,67-10ffff"},   // one rune between
		{of('a', 'd', 'c', 'f'), "61-66", 6, "0-60,67-10ffff"},            // overlapping
		{of('a', 'z', 'c', 'd'), "61-7a", 26, "0-60,7b-10ffff"},           // one within the other
		{of('a', 'z', 'c', 'd', 'f', 'g'), "61-7a", 26, "0-60,7b-10ffff"}, // two within it
		{of('a', 'b', 'a', 'z'), "61-7a", 26, "0-60,7b-10ffff"},           // beginning as one
		{of('a', 'c', 'a', 'c'), "61-63", 3, "0-60,64-10ffff"},
		{of('x', 'x', 'a', 'a', 'm', 'm'), "61,6d,78", 3, "0-60,62-6c,6e-77,79-10ffff"},
		{of('a', 'a', 'c', 'c', 'b', 'b'), "61-63", 3, "0-60,64-10ffff"}, // one that closes the gap
		{of(0, 0), "0", 1, "1-10ffff"},
		{of(1, 1), "1", 1, "0,2-10ffff"},
		{of(runes.Most, runes.Most), "10ffff", 1, "0-10fffe"},
		{of(runes.Most-1, runes.Most-1), "10fffe", 1, "0-10fffd,10ffff"},
		{of(0, runes.Most), "0-10ffff", many, ""},
		{of(0, 'a', 'b', runes.Most), "0-10ffff", many, ""},
		{of(1, runes.Most-1), "1-10fffe", many - 2, "0,10ffff"},
		{of(0xd800, 0xdfff), "d800-dfff", 2048, "0-d7ff,e000-10ffff"}, // no right runes, but runes of a Range
		{of('b', 'a'), "", 0, "0-10ffff"},
		{of(-1, 5), "", 0, "0-10ffff"},
		{of(7, runes.Most+1), "", 0, "0-10ffff"},
		{of(math.MinInt32, math.MaxInt32), "", 0, "0-10ffff"},
		{of(math.MaxInt32, math.MinInt32), "", 0, "0-10ffff"},
		{of(math.MaxInt32, math.MaxInt32, math.MinInt32, math.MinInt32), "", 0, "0-10ffff"},
		{of('b', 'a', 'x', 'y', -1, 5, 'a', 'b', 7, runes.Most+1), "61-62,78-79", 4, "0-60,63-77,7a-10ffff"},
	} {
		got := class.Of(c.l...)
		if told := class.Put(got); told != c.want || !class.Right(got) {
			t.Errorf("Of(%v) is %q, not %q", c.l, told, c.want)
		}
		if told := class.Class(c.l).Many(); told != c.many || got.Many() != c.many {
			t.Errorf("Many of %v is %d, not %d", c.l, told, c.many)
		}
		if told := class.Put(class.Not(c.l)); told != c.not {
			t.Errorf("Not(%v) is %q, not %q", c.l, told, c.not)
		}
	}
}

// P4.1 to P4.3: all classes of up to three Ranges, at both ends of the runes
// and beyond them, follow the chapter's rules.
func TestEveryClass(t *testing.T) {
	checkClass(t)
	all := between(ends())
	for _, a := range all {
		checkClass(t, a)
		for _, b := range all {
			checkClass(t, a, b)
		}
	}
	some := between(fewer())
	for _, a := range some {
		for _, b := range some {
			for _, c := range some {
				checkClass(t, a, b, c)
			}
		}
	}
}

// P4.1: Right at each edge that the chapter names.
func TestRight(t *testing.T) {
	for _, c := range []struct {
		l    []class.Range
		want bool
	}{
		{nil, true},
		{[]class.Range{}, true},
		{of(0, 0), true},
		{of(0, runes.Most), true},
		{of(runes.Most, runes.Most), true},
		{of(0xd800, 0xdfff), true},
		{of('a', 'b', 'd', 'e'), true},
		{of('a', 'b', 'c', 'd'), false}, // touching
		{of('a', 'c', 'b', 'd'), false}, // overlapping
		{of('a', 'b', 'a', 'b'), false},
		{of('d', 'e', 'a', 'b'), false}, // falling
		{of('a', 'a', 'x', 'x', 'c', 'c'), false},
		{of('b', 'a'), false},
		{of('a', 'a', 'd', 'c'), false},
		{of(-1, 5), false},
		{of(-1, -1), false},
		{of(5, runes.Most+1), false},
		{of(runes.Most+1, runes.Most+1), false},
		{of('a', 'b', runes.Most, runes.Most+1), false},
		{of(math.MinInt32, math.MaxInt32), false},
		{of(5, math.MaxInt32, 7, 9), false}, // one behind its High there is no number
		{single(63), true},
		{single(api.MaxRanges), true},
		{single(api.MaxRanges + 1), false},
	} {
		if got := class.Right(c.l); got != c.want {
			t.Errorf("Right(%v) is %t", c.l, got)
		}
	}
}

// P4.1: Of and Union tell more Ranges than a right class has.
func TestMoreThanRight(t *testing.T) {
	l := single(200)
	if got := class.Of(l...); !slices.Equal(got, l) || class.Right(got) || got.Many() != 200 {
		t.Errorf("Of tells %d Ranges, Many %d", len(got), got.Many())
	}
	if got := class.Union(l[100:], l[:100]); !slices.Equal(got, l) {
		t.Errorf("Union tells %d Ranges", len(got))
	}
	if got := class.Not(l); len(got) != 200 || got.Many() != many-200 {
		t.Errorf("Not tells %d Ranges, Many %d", len(got), got.Many())
	}
}

// P4.1: Has asks each Range, from Low to High, of any class: one that falls,
// one that goes beyond the runes, one that has none.
func TestHas(t *testing.T) {
	for _, c := range []struct {
		l       []class.Range
		in, out []rune
	}{
		{nil, nil, []rune{0, 'a', -1, math.MinInt32, math.MaxInt32}},
		{of('a', 'c', 'x', 'x'), []rune{'a', 'b', 'c', 'x'}, []rune{'`', 'd', 'w', 'y', 0, -1, runes.Most}},
		{of('x', 'z', 'a', 'c'), []rune{'a', 'c', 'x', 'z'}, []rune{'d', 'w', '{'}},
		{of('a', 'z', 'c', 'd'), []rune{'a', 'c', 'e', 'z'}, []rune{'`', '{'}},
		{of(0, runes.Most), []rune{0, 0xd800, 0xfffd, runes.Most}, []rune{-1, runes.Most + 1}},
		{of('b', 'a', 'm', 'm'), []rune{'m'}, []rune{'a', 'b'}},
		{of(-5, 5), []rune{-5, -1, 0, 5}, []rune{-6, 6}},
		{of(7, runes.Most+1), []rune{7, runes.Most, runes.Most + 1}, []rune{6, runes.Most + 2}},
		{of(math.MinInt32, math.MaxInt32), []rune{math.MinInt32, 0, math.MaxInt32}, nil},
		{of(math.MaxInt32, math.MinInt32), nil, []rune{math.MinInt32, 0, math.MaxInt32}},
	} {
		for _, r := range c.in {
			if !class.Class(c.l).Has(r) {
				t.Errorf("%v has not %d", c.l, r)
			}
		}
		for _, r := range c.out {
			if class.Class(c.l).Has(r) {
				t.Errorf("%v has %d", c.l, r)
			}
		}
	}
}

// P4.2: Same holds the Ranges against each other one by one, and not what they
// have.
func TestSame(t *testing.T) {
	for _, c := range []struct {
		a, b []class.Range
		want bool
	}{
		{nil, nil, true},
		{nil, []class.Range{}, true},
		{of('a', 'c'), of('a', 'c'), true},
		{of('b', 'a', -1, 5), of('b', 'a', -1, 5), true},
		{of('a', 'c'), nil, false},
		{of('a', 'c'), of('a', 'd'), false},
		{of('b', 'c'), of('a', 'c'), false},
		{of('a', 'c', 'x', 'x'), of('a', 'c'), false},
		{of('a', 'c', 'x', 'x'), of('a', 'c', 'x', 'y'), false},
		{of('a', 'c', 'x', 'x'), of('x', 'x', 'a', 'c'), false},
		{of('a', 'b', 'c', 'd'), of('a', 'd'), false},
		{of('b', 'a'), nil, false},
	} {
		if class.Same(c.a, c.b) != c.want || class.Same(c.b, c.a) != c.want {
			t.Errorf("Same(%v, %v) is not %t", c.a, c.b, c.want)
		}
	}
}

// P4.2: Put tells any Ranges as they stand, also such as may not be.
func TestPut(t *testing.T) {
	for _, c := range []struct {
		l    []class.Range
		want string
	}{
		{nil, ""},
		{of('a', 'c'), "61-63"},
		{of('a', 'a'), "61"},
		{of(0, 0), "0"},
		{of(0, 15, 16, 16), "0-f,10"},
		{of(10, 5), "a-5"},
		{of('x', 'x', 'a', 'a', 'a', 'a'), "78,61,61"},
		{of(-16, -16), "-10"},
		{of(-1, 1), "-1-1"},
		{of(1, -1), "1--1"},
		{of(-16, -1, 0, 0), "-10--1,0"},
		{of(0xabcdef, 0x10ffff), "abcdef-10ffff"},
		{of(math.MinInt32, math.MaxInt32), "-80000000-7fffffff"},
		{of(math.MinInt32, math.MinInt32), "-80000000"},
	} {
		if got := class.Put(c.l); got != c.want {
			t.Errorf("Put(%v) is %q, not %q", c.l, got, c.want)
		}
	}
	for r := rune(-70000); r <= 70000; r++ {
		if got := class.Put(of(r, r)); got != strconv.FormatInt(int64(r), 16) {
			t.Fatalf("Put of %d is %q", r, got)
		}
	}
}

// P4.3: a rune is in a union just if it is in one of both, and in what is not
// just if it is not, for every rune there is.
func TestEveryRune(t *testing.T) {
	a := class.Of(of('a', 'z', '0', '9', 0xd7ff, 0xe000, 0x400, 0x4ff)...)
	b := class.Of(of('_', '_', 'm', 0x410, 0x10000, runes.Most, 0, 3)...)
	union, notA, notB := class.Union(a, b), class.Not(a), class.Not(b)
	for r := rune(-3); r <= runes.Most+3; r++ {
		is := 0 <= r && r <= runes.Most
		if union.Has(r) != (a.Has(r) || b.Has(r)) {
			t.Fatalf("%x is in the union: %t", r, union.Has(r))
		}
		if notA.Has(r) != (is && !a.Has(r)) || notB.Has(r) != (is && !b.Has(r)) {
			t.Fatalf("%x is in what is not: %t, %t", r, notA.Has(r), notB.Has(r))
		}
	}
	if union.Many()+class.Not(union).Many() != many {
		t.Errorf("%d and %d runes are not all", union.Many(), class.Not(union).Many())
	}
	if !class.Same(class.Not(notA), a) || !class.Same(class.Not(notB), b) || !class.Same(class.Union(a, notA), of(0, runes.Most)) {
		t.Error("twice not is not the same, or a class and what is not are not all")
	}
}

// P3 of the whole: nothing that is handed in is written into, nor what stands
// behind it in its array, whichever call has it.
func TestHandedIn(t *testing.T) {
	whole := of('x', 'z', 'b', 'a', 'a', 'c', 'd', 'f', -1, 5, 'm', 'm', 'q', 'r')
	before := slices.Clone(whole)
	for first := range whole {
		for end := first; end <= len(whole); end++ {
			l := whole[first:end]
			class.Of(l...)
			class.Right(l)
			class.Class(l).Has('b')
			class.Class(l).Many()
			class.Union(l, whole[:first])
			class.Union(whole[:first], l)
			class.Not(l)
			class.Same(l, whole)
			class.Put(l)
			if !slices.Equal(whole, before) {
				t.Fatalf("%v was written into: %v", before, whole)
			}
		}
	}
}

// P3 of the whole: what a call answers is memory of its own, spare room too,
// also where it is what was handed in.
func TestAnswersAreNew(t *testing.T) {
	whole := of('a', 'c', 'e', 'g', 'm', 'm', 'q', 'r', 'x', 'z')
	before := slices.Clone(whole)
	l := whole[:3]
	for i, got := range []class.Class{
		class.Of(l...), class.Of(l...), class.Of(l[:1]...), class.Not(l), class.Not(class.Not(l)),
		class.Union(l, nil), class.Union(nil, l), class.Union(l, l), class.Union(l, whole[3:]),
	} {
		clear(got[:cap(got)])
		if !slices.Equal(whole, before) {
			t.Fatalf("answer %d shares memory with what was handed in: %v", i, whole)
		}
	}
	first := class.Of(l...)
	second := class.Of(l...)
	clear(first[:cap(first)])
	if !slices.Equal(second, l) {
		t.Errorf("two answers share memory: %v", second)
	}
}

// P1 of the whole: a great list, from the greatest to the least, is told in no
// time to speak of.
func TestGreatList(t *testing.T) {
	l := single(many / 2)
	slices.Reverse(l)
	if got := class.Of(l...); len(got) != many/2 || got[0] != (class.Range{}) || got.Many() != many/2 {
		t.Errorf("Of tells %d Ranges", len(got))
	}
	if got := class.Not(l); len(got) != many/2 || got[0] != (class.Range{Low: 1, High: 1}) {
		t.Errorf("Not tells %d Ranges", len(got))
	}
	for i := range l {
		l[i].High++
	}
	if got := class.Put(class.Union(l[:1000], l[1000:])); got != "0-10ffff" {
		t.Errorf("all runes are %q", got)
	}
}
