package runes_test

import (
	"math"
	"slices"
	"strings"
	"testing"

	"waxwork/runes"
)

// kind is a range of right runes that need as many bytes as each other: many
// bytes, of which the first has lead besides bits of the rune.
type kind struct {
	low, high rune
	many      int
	lead      byte
}

// kinds are those that there are, with a gap where no right rune is.
func kinds() []kind {
	return []kind{
		{0, 0x7f, 1, 0x00},
		{0x80, 0x7ff, 2, 0xc0},
		{0x800, 0xd7ff, 3, 0xe0},
		{0xe000, 0xffff, 3, 0xe0},
		{0x10000, 0x10ffff, 4, 0xf0},
	}
}

// plainPut is a right rune in UTF-8, in arithmetic alone; nothing of another.
func plainPut(r rune) string {
	for _, k := range kinds() {
		if r < k.low || r > k.high {
			continue
		}
		out := make([]byte, k.many)
		for i := k.many - 1; i > 0; i-- {
			out[i] = 0x80 | byte(r%64)
			r /= 64
		}
		out[0] = k.lead | byte(r)
		return string(out)
	}
	return ""
}

// plainFirst is the rune that s begins with, got by trying how many bytes it
// may have, and putting again what they would be.
func plainFirst(s string) (rune, int) {
	for _, many := range []int{1, 2, 3, 4} {
		if many > len(s) {
			break
		}
		lead := []byte{0xff, 0x7f, 0x1f, 0x0f, 0x07}[many]
		r := rune(s[0] & lead)
		for i := 1; i < many; i++ {
			r = r*64 + rune(s[i]&0x3f)
		}
		if plainPut(r) == s[:many] {
			return r, many
		}
	}
	return 0xfffd, 1
}

// plainAll is the chapter's rule for All, rune by rune from the beginning.
func plainAll(s string) []runes.Rune {
	var out []runes.Rune
	for at := 0; at < len(s); {
		r, size := plainFirst(s[at:])
		out = append(out, runes.Rune{R: r, At: at, Size: size})
		at += size
	}
	return out
}

// plainWord is the chapter's list of the runes of a word.
func plainWord(r rune) bool {
	return r > 0 && strings.ContainsRune("0123456789ABCDEFGHIJKLMNOPQRSTUVWXYZabcdefghijklmnopqrstuvwxyz_", r)
}

// edges are runes at which something changes, and their neighbours: wrong ones
// too.
func edges() []rune {
	out := []rune{math.MinInt32, math.MaxInt32, 0x1fffff, 0x200000, 0x7fffffff - 0xfffd, -0xfffd}
	for _, r := range []rune{0, '0', '9', 'A', 'Z', '_', 'a', 'z', 0x7f, 0xff, 0x7ff, 0xd7ff, 0xdbff, 0xdfff, 0xfffd, 0xffff, 0x10ffff} {
		for near := rune(-2); near <= 2; near++ {
			out = append(out, r+near)
		}
	}
	return out
}

// far are numbers that are no places of a text of many bytes.
func far(many int) []int {
	return []int{math.MinInt, math.MinInt + 1, -5, -4, -3, -2, -1, many + 1, many + 2, many + 3, many + 4, many + 5, math.MaxInt - 1, math.MaxInt}
}

// eachText goes through all texts of up to most bytes, each one of kinds.
func eachText(kinds string, most int, try func(s string)) {
	var more func(s string)
	more = func(s string) {
		try(s)
		if len(s) == most {
			return
		}
		for i := range len(kinds) {
			more(s + kinds[i:i+1])
		}
	}
	more("")
}

// texts are ordinary ones, and such as are cut, or wrong.
func texts() []string {
	return []string{
		"", "a", "abc", "\x00", "ab cd", "_x 9-z", "grüße, 世界 \U0001f600!", "\ufffd", "\ufffda\ufffd", "a\u0301e\u0301",
		"\xff", "\xffa", "a\xff", "a\xc3", "\xc3\xa9\xa9", "\xa9\xc3\xa9", "\xef\xbf", "\xef\xbf\xbd\xbd", "\xef\xef\xbf\xbd",
		"\xf0\x9f\x98", "\xf0\x9f\x98\x80\x80", "\xf0\xf0\x9f\x98\x80", "\x80\x80\x80\x80\x80", "\xed\xa0\xbd\xed\xb8\x80",
		"\xf8\x88\x80\x80\x80", "\xfc\x84\x80\x80\x80\x80", "\xfe\xff", strings.Repeat("世\xe4\xb8x", 20),
	}
}

// checkText holds every call against the chapter's rules, at every place of s,
// within its runes, and beyond its ends.
func checkText(t *testing.T, s string) {
	t.Helper()
	want := plainAll(s)
	if got := runes.All(s); !slices.Equal(got, want) {
		t.Fatalf("All(%x) is %v, not %v", s, got, want)
	}
	begin, end := make(map[int]runes.Rune), make(map[int]runes.Rune)
	for _, r := range want {
		begin[r.At], end[r.At+r.Size] = r, r
	}
	for at := -5; at <= len(s)+5; at++ {
		behind, isBehind := begin[at]
		ahead, isAhead := end[at]
		if got, ok := runes.At(s, at); got != behind || ok != isBehind {
			t.Fatalf("At(%x, %d) is %v, %t", s, at, got, ok)
		}
		if got, ok := runes.Ahead(s, at); got != ahead || ok != isAhead {
			t.Fatalf("Ahead(%x, %d) is %v, %t", s, at, got, ok)
		}
		if got := runes.Place(s, at); got != (at == 0 || isAhead) {
			t.Fatalf("Place(%x, %d) is %t", s, at, got)
		}
		if got := runes.Edge(s, at); got != (plainWord(ahead.R) != plainWord(behind.R)) {
			t.Fatalf("Edge(%x, %d) is %t", s, at, got)
		}
	}
}

// The chapter's numbers.
func TestConstants(t *testing.T) {
	if runes.Most != 0x10ffff || runes.Bad != 0xfffd {
		t.Errorf("Most is %x, Bad is %x", runes.Most, runes.Bad)
	}
}

// P3.1: Right and Put are what the chapter says at each edge, and of wrong
// runes: these are put as Bad.
func TestPutAtEdges(t *testing.T) {
	for _, c := range []struct {
		r     rune
		right bool
		want  string
	}{
		{0, true, "\x00"},
		{'a', true, "a"},
		{0x7f, true, "\x7f"},
		{0x80, true, "\xc2\x80"},
		{0xe9, true, "\xc3\xa9"},
		{0x7ff, true, "\xdf\xbf"},
		{0x800, true, "\xe0\xa0\x80"},
		{0x20ac, true, "\xe2\x82\xac"},
		{0xd7ff, true, "\xed\x9f\xbf"},
		{0xd800, false, "\xef\xbf\xbd"},
		{0xdbff, false, "\xef\xbf\xbd"},
		{0xdc00, false, "\xef\xbf\xbd"},
		{0xdfff, false, "\xef\xbf\xbd"},
		{0xe000, true, "\xee\x80\x80"},
		{runes.Bad, true, "\xef\xbf\xbd"},
		{0xffff, true, "\xef\xbf\xbf"},
		{0x10000, true, "\xf0\x90\x80\x80"},
		{0x1f600, true, "\xf0\x9f\x98\x80"},
		{runes.Most, true, "\xf4\x8f\xbf\xbf"},
		{runes.Most + 1, false, "\xef\xbf\xbd"},
		{-1, false, "\xef\xbf\xbd"},
		{math.MinInt32, false, "\xef\xbf\xbd"},
		{math.MaxInt32, false, "\xef\xbf\xbd"},
	} {
		if got := runes.Right(c.r); got != c.right {
			t.Errorf("Right(%x) is %t", c.r, got)
		}
		if got := runes.Put(c.r); got != c.want {
			t.Errorf("Put(%x) is %x, not %x", c.r, got, c.want)
		}
	}
}

// P3.1, P3.4: every right rune is put in as few bytes as it needs, and read
// again as it was, alone and among others.
func TestEveryRune(t *testing.T) {
	for r := rune(-300); r <= runes.Most+300; r++ {
		want := plainPut(r)
		if got := runes.Right(r); got != (want != "") {
			t.Fatalf("Right(%x) is %t", r, got)
		}
		back := r
		if want == "" {
			want, back = "\xef\xbf\xbd", runes.Bad
		}
		if got := runes.Put(r); got != want {
			t.Fatalf("Put(%x) is %x, not %x", r, got, want)
		}
		size := len(want)
		read := []runes.Rune{{R: 'a', Size: 1}, {R: back, At: 1, Size: size}, {R: back, At: 1 + size, Size: size}}
		if got := runes.All("a" + want + want); !slices.Equal(got, read) {
			t.Fatalf("All of a, and %x twice, is %v", want, got)
		}
	}
}

// P3.1: All is what the chapter says, its example with it: what begins no right
// rune, or has a byte too many, is Bad, of one byte.
func TestAll(t *testing.T) {
	bad := func(at int) runes.Rune { return runes.Rune{R: runes.Bad, At: at, Size: 1} }
	for _, c := range []struct {
		s    string
		want []runes.Rune
	}{
		{"", nil}, // the chapter's example
		{"a", []runes.Rune{{R: 'a', Size: 1}}},
		{"é€", []runes.Rune{{R: 0xe9, Size: 2}, {R: 0x20ac, At: 2, Size: 3}}},
		{"\U0001f600z", []runes.Rune{{R: 0x1f600, Size: 4}, {R: 'z', At: 4, Size: 1}}},
		{"\ufffd\xff\ufffd", []runes.Rune{{R: runes.Bad, Size: 3}, bad(3), {R: runes.Bad, At: 4, Size: 3}}},
		{"\x80", []runes.Rune{bad(0)}},
		{"\xc1\xbf", []runes.Rune{bad(0), bad(1)}},                             // 7f, with a byte too many
		{"\xe0\x9f\xbf", []runes.Rune{bad(0), bad(1), bad(2)}},                 // 7ff, likewise
		{"\xf0\x8f\xbf\xbf", []runes.Rune{bad(0), bad(1), bad(2), bad(3)}},     // ffff, likewise
		{"\xf0\x8f\xbf\xbd", []runes.Rune{bad(0), bad(1), bad(2), bad(3)}},     // Bad, likewise
		{"\xed\xa0\x80", []runes.Rune{bad(0), bad(1), bad(2)}},                 // d800
		{"\xed\xbf\xbf", []runes.Rune{bad(0), bad(1), bad(2)}},                 // dfff
		{"\xf4\x90\x80\x80", []runes.Rune{bad(0), bad(1), bad(2), bad(3)}},     // 110000
		{"\xf7\xbf\xbf\xbf", []runes.Rune{bad(0), bad(1), bad(2), bad(3)}},     // 1fffff
		{"\xe2\x82é", []runes.Rune{bad(0), bad(1), {R: 0xe9, At: 2, Size: 2}}}, // cut off by another one
		{"a\xf0\x9f\x98", []runes.Rune{{R: 'a', Size: 1}, bad(1), bad(2), bad(3)}},
	} {
		if got := runes.All(c.s); !slices.Equal(got, c.want) {
			t.Errorf("All(%x) is %v, not %v", c.s, got, c.want)
		}
	}
}

// P3.2: At, Ahead and Place of a text by hand, within its runes too.
func TestPlaces(t *testing.T) {
	s := "é\xa9a\xe2\x82"
	list := []runes.Rune{{R: 0xe9, Size: 2}, {R: runes.Bad, At: 2, Size: 1}, {R: 'a', At: 3, Size: 1}, {R: runes.Bad, At: 4, Size: 1}, {R: runes.Bad, At: 5, Size: 1}}
	var none runes.Rune
	for at, c := range []struct {
		place         bool
		ahead, behind runes.Rune
	}{
		{true, none, list[0]},
		{false, none, none},
		{true, list[0], list[1]},
		{true, list[1], list[2]},
		{true, list[2], list[3]},
		{true, list[3], list[4]},
		{true, list[4], none},
	} {
		if got := runes.Place(s, at); got != c.place {
			t.Errorf("Place(%d) is %t", at, got)
		}
		if got, ok := runes.At(s, at); got != c.behind || ok != (c.behind != none) {
			t.Errorf("At(%d) is %v, %t", at, got, ok)
		}
		if got, ok := runes.Ahead(s, at); got != c.ahead || ok != (c.ahead != none) {
			t.Errorf("Ahead(%d) is %v, %t", at, got, ok)
		}
	}
}

// P3.2: what is below 0, or past the end, is no place, however far it is.
func TestFarPlaces(t *testing.T) {
	for _, s := range texts() {
		for _, at := range far(len(s)) {
			if runes.Place(s, at) || runes.Edge(s, at) {
				t.Errorf("Place or Edge(%x, %d) is true", s, at)
			}
			if r, ok := runes.At(s, at); r != (runes.Rune{}) || ok {
				t.Errorf("At(%x, %d) is %v, %t", s, at, r, ok)
			}
			if r, ok := runes.Ahead(s, at); r != (runes.Rune{}) || ok {
				t.Errorf("Ahead(%x, %d) is %v, %t", s, at, r, ok)
			}
		}
		if !runes.Place(s, 0) || !runes.Place(s, len(s)) {
			t.Errorf("an end of %x is no place", s)
		}
	}
}

// P3.3: Word is just the chapter's list.
func TestWord(t *testing.T) {
	for r := rune(-300); r <= 0x2100; r++ {
		if got := runes.Word(r); got != plainWord(r) {
			t.Errorf("Word(%x) is %t", r, got)
		}
	}
	for _, r := range append(edges(), 'a'+0x10000, 'a'+0x100, 0xff21, 0x17f, 0x212a) {
		if got := runes.Word(r); got != plainWord(r) {
			t.Errorf("Word(%x) is %t", r, got)
		}
	}
}

// P3.3: Edge at every place of texts by hand. What is not there is none of a
// word, nor is 0.
func TestEdge(t *testing.T) {
	for _, c := range []struct {
		s    string
		want []int
	}{
		{"", nil},
		{"a", []int{0, 1}},
		{"ab cd", []int{0, 2, 3, 5}},
		{" a ", []int{1, 2}},
		{"--", nil},
		{"\x00", nil},
		{"\x00_\x00", []int{1, 2}},
		{"éaé", []int{2, 3}},
		{"\xc3a\xa9", []int{1, 2}},
		{"Z9_0Az", []int{0, 6}},
	} {
		var got []int
		for at := -2; at <= len(c.s)+2; at++ {
			if runes.Edge(c.s, at) {
				got = append(got, at)
			}
		}
		if !slices.Equal(got, c.want) {
			t.Errorf("edges of %q are %v, not %v", c.s, got, c.want)
		}
	}
}

// P3.1 to P3.3: all texts of bytes at which UTF-8 changes follow the chapter's
// rules, and longer ones of fewer kinds of bytes.
func TestEveryText(t *testing.T) {
	for _, s := range texts() {
		checkText(t, s)
	}
	eachText("a\x80\x8f\x90\x9f\xa0\xbd\xbf\xc1\xc2\xdf\xe0\xe1\xed\xef\xf0\xf4\xf5", 4, func(s string) { checkText(t, s) })
	eachText("_\x8f\x90\xc3\xed\xf1", 6, func(s string) { checkText(t, s) })
}

// P3.4: runes stand one behind the other, and together are the text.
func TestTogetherTheText(t *testing.T) {
	for _, s := range texts() {
		end, whole := 0, ""
		for _, r := range runes.All(s) {
			if r.At != end || r.Size < 1 {
				t.Errorf("All(%x): %v begins behind %d", s, r, end)
			}
			end = r.At + r.Size
			whole += s[r.At:end]
		}
		if end != len(s) || whole != s {
			t.Errorf("All(%x) is together %x", s, whole)
		}
	}
}

// P3.4: what was put is read again; of what is not right, Bad.
func TestPutThenRead(t *testing.T) {
	all := edges()
	for _, first := range all {
		for _, second := range all {
			s := runes.Put(first) + runes.Put(second)
			back := make([]rune, 0, 2)
			for _, r := range runes.All(s) {
				back = append(back, r.R)
			}
			want := []rune{first, second}
			for i, r := range want {
				if plainPut(r) == "" {
					want[i] = runes.Bad
				}
			}
			if !slices.Equal(back, want) {
				t.Fatalf("%x and %x are read as %x", first, second, back)
			}
		}
	}
}

// P3 of the whole: each answer of All is memory of its own.
func TestAllIsNew(t *testing.T) {
	s := "grüße"
	first := runes.All(s)
	clear(first[:cap(first)])
	if got := runes.All(s); !slices.Equal(got, plainAll(s)) {
		t.Errorf("All(%q) is %v, once an answer was written into", s, got)
	}
}

// P1 of the whole: a long text is gone through from end to end, and back, in
// no time to speak of: no call begins at its beginning again.
func TestLongText(t *testing.T) {
	s := strings.Repeat("a\xffé€\U0001f600\x80", 100000)
	list := runes.All(s)
	at := 0
	for _, want := range list {
		r, ok := runes.At(s, at)
		if !ok || r != want || !runes.Place(s, at) {
			t.Fatalf("At(%d) is %v, %t", at, r, ok)
		}
		at += r.Size
	}
	for _, want := range slices.Backward(list) {
		r, ok := runes.Ahead(s, at)
		if !ok || r != want {
			t.Fatalf("Ahead(%d) is %v, %t", at, r, ok)
		}
		at -= r.Size
	}
	if at != 0 {
		t.Errorf("back at %d", at)
	}
}
