package syntax_test

import (
	"strings"
	"testing"

	"waxwork/api"
	"waxwork/class"
	"waxwork/syntax"
)

// P5.2, P5.3: patterns by hand, and the nodes that they are.
func TestParse(t *testing.T) {
	for s, want := range map[string]string{
		"":    "Empty",
		"a":   "One 61",
		"abc": "Cat(One 61, One 62, One 63)",
		"a|b": "Alt(One 61, One 62)",
		"|":   "Alt(Empty, Empty)",
		"a||": "Alt(One 61, Empty, Empty)",
		"é\n": "Cat(One e9, One a)",
		"-,:": "Cat(One 2d, One 2c, One 3a)",
		// what a bracket has is one atom, and no node of its own without a number
		"(a)":         "Group 1(One 61)",
		"()":          "Group 1(Empty)",
		"(|)":         "Group 1(Alt(Empty, Empty))",
		"((a)b)(c)":   "Cat(Group 1(Cat(Group 2(One 61), One 62)), Group 3(One 63))",
		"(?:(a))(b)":  "Cat(Group 1(One 61), Group 2(One 62))",
		"(a)|(b)":     "Alt(Group 1(One 61), Group 2(One 62))",
		"(?:)":        "Empty",
		"(?:(?:))":    "Empty",
		"(?:a)":       "One 61",
		"(?:)(?:)":    "Empty",
		"a(?:)":       "One 61",
		"(?:)a(?:)":   "One 61",
		"a(?:)b":      "Cat(One 61, One 62)",
		"a(?:bc)d":    "Cat(One 61, One 62, One 63, One 64)",
		"(?:a(?:bc))": "Cat(One 61, One 62, One 63)",
		"(?:ab)(?:)":  "Cat(One 61, One 62)",
		"(ab)c":       "Cat(Group 1(Cat(One 61, One 62)), One 63)",
		// so with bars
		"(?:a|b)|c":       "Alt(One 61, One 62, One 63)",
		"a|(?:b|(?:c|d))": "Alt(One 61, One 62, One 63, One 64)",
		"a|(?:)|b":        "Alt(One 61, Empty, One 62)",
		"a|(?:|)":         "Alt(One 61, Empty, Empty)",
		"(?:a|b)":         "Alt(One 61, One 62)",
		"(?:a|b)(?:)":     "Alt(One 61, One 62)",
		"(?:a|b)(?:)|c":   "Alt(One 61, One 62, One 63)",
		"(?:a|b)c":        "Cat(Alt(One 61, One 62), One 63)",
		"(a|b)|c":         "Alt(Group 1(Alt(One 61, One 62)), One 63)",
		"ab|cd":           "Alt(Cat(One 61, One 62), Cat(One 63, One 64))",
		// what is repeated
		"a*":             "Repeat 0 -1(One 61)",
		"a+":             "Repeat 1 -1(One 61)",
		"a?":             "Repeat 0 1(One 61)",
		"a*?":            "Repeat 0 -1 lazy(One 61)",
		"a+?":            "Repeat 1 -1 lazy(One 61)",
		"a??":            "Repeat 0 1 lazy(One 61)",
		"a{0}":           "Repeat 0 0(One 61)",
		"a{3}":           "Repeat 3 3(One 61)",
		"a{20}?":         "Repeat 20 20 lazy(One 61)",
		"a{0,}":          "Repeat 0 -1(One 61)",
		"a{1,}":          "Repeat 1 -1(One 61)",
		"a{20,}?":        "Repeat 20 -1 lazy(One 61)",
		"a{0,0}":         "Repeat 0 0(One 61)",
		"a{0,1}":         "Repeat 0 1(One 61)",
		"a{2,5}?":        "Repeat 2 5 lazy(One 61)",
		"a{10,20}":       "Repeat 10 20(One 61)",
		"a{20,20}":       "Repeat 20 20(One 61)",
		"ab*":            "Cat(One 61, Repeat 0 -1(One 62))",
		"(?:ab)*":        "Repeat 0 -1(Cat(One 61, One 62))",
		"(?:a|b)*c":      "Cat(Repeat 0 -1(Alt(One 61, One 62)), One 63)",
		"(?:)*":          "Repeat 0 -1(Empty)",
		"(?:)*(?:)":      "Repeat 0 -1(Empty)",
		"()*":            "Repeat 0 -1(Group 1(Empty))",
		"(?:a*)*":        "Repeat 0 -1(Repeat 0 -1(One 61))",
		"(?:a*?)?":       "Repeat 0 1(Repeat 0 -1 lazy(One 61))",
		"(?:a*)b+":       "Cat(Repeat 0 -1(One 61), Repeat 1 -1(One 62))",
		`^*$+\b?\B{2}`:   "Cat(Repeat 0 -1(Begin), Repeat 1 -1(End), Repeat 0 1(Edge), Repeat 2 2(Inner))",
		`[ab]*\d+.?`:     "Cat(Repeat 0 -1(One 61-62), Repeat 1 -1(One 30-39), Repeat 0 1(One 0-9,b-10ffff))",
		"a?|b?":          "Alt(Repeat 0 1(One 61), Repeat 0 1(One 62))",
		"(?:a{2}){3}":    "Repeat 3 3(Repeat 2 2(One 61))",
		"(?:a|b*)??(|c)": "Cat(Repeat 0 1 lazy(Alt(One 61, Repeat 0 -1(One 62))), Group 1(Alt(Empty, One 63)))",
		// atoms
		".":      "One 0-9,b-10ffff",
		"^$":     "Cat(Begin, End)",
		"a^b$c":  "Cat(One 61, Begin, One 62, End, One 63)",
		`\b\B`:   "Cat(Edge, Inner)",
		`\n\t`:   "Cat(One a, One 9)",
		`\d`:     "One 30-39",
		`\w`:     "One 30-39,41-5a,5f,61-7a",
		`\s`:     "One 9-a,d,20",
		`\\\.\-`: "Cat(One 5c, One 2e, One 2d)",
		`\[\]`:   "Cat(One 5b, One 5d)",
		`\(\)`:   "Cat(One 28, One 29)",
		`\*\+\?`: "Cat(One 2a, One 2b, One 3f)",
		`\{\}`:   "Cat(One 7b, One 7d)",
		`\|\^\$`: "Cat(One 7c, One 5e, One 24)",
		// Bad is a rune as others, where its bytes stand
		"\ufffd":             "One fffd",
		"a\ufffd*":           "Cat(One 61, Repeat 0 -1(One fffd))",
		"[\ufffd]":           "One fffd",
		"[a-\ufffd]":         "One 61-fffd",
		"[^\ufffd]":          "One 0-fffc,fffe-10ffff",
		"\x00\U0010ffff":     "Cat(One 0, One 10ffff)",
		"\u07ff\ud7ff\ue000": "Cat(One 7ff, One d7ff, One e000)",
		// classes
		"[a]":                             "One 61",
		"[abc]":                           "One 61-63",
		"[cab]":                           "One 61-63",
		"[aa-ca]":                         "One 61-63",
		"[a-cx]":                          "One 61-63,78",
		"[b-da]":                          "One 61-64",
		"[a-a]":                           "One 61",
		"[^a]":                            "One 0-60,62-10ffff",
		"[^\n]":                           "One 0-9,b-10ffff",
		`[^\n]`:                           "One 0-9,b-10ffff",
		"[^a-yz]":                         "One 0-60,7b-10ffff",
		"[a-c][^d]":                       "Cat(One 61-63, One 0-63,65-10ffff)",
		"[[]":                             "One 5b",
		"[[-a]":                           "One 5b-61",
		"[.()*+?{}|$]":                    "One 24,28-2b,2e,3f,7b-7d",
		"[$-.]":                           "One 24-2e",
		"[,:]":                            "One 2c,3a",
		`[\]\^\-\\]`:                      "One 2d,5c-5e",
		`[\.\(\)\*\+\?]`:                  "One 28-2b,2e,3f",
		`[\[\{\}\|\$]`:                    "One 24,5b,7b-7d",
		`[\d\s]`:                          "One 9-a,d,20,30-39",
		`[\w\-]`:                          "One 2d,30-39,41-5a,5f,61-7a",
		`[^\w]`:                           "One 0-2f,3a-40,5b-5e,60,7b-10ffff",
		`[\t-\n]`:                         "One 9-a",
		`[\n-a]`:                          "One a-61",
		`[+-\-]`:                          "One 2b-2d",
		`[\--\.]`:                         "One 2d-2e",
		`[a\--b]`:                         "One 2d-62",
		`[\]-a]`:                          "One 5d-61",
		`[\[-\]]`:                         "One 5b-5d",
		"[é-€\U0001f600]":                 "One e9-20ac,1f600",
		"[\x00-\U0010ffff]":               "One 0-10ffff",
		"[^b-\U0010ffff]":                 "One 0-61",
		"[^\x00-a]":                       "One 62-10ffff",
		"[^\ue000-\uffff]":                "One 0-dfff,10000-10ffff",
		"[^\x00-\ud7ff\ue000-\U0010ffff]": "One d800-dfff", // they are runes of a class, though not right
	} {
		n, at, e := syntax.Parse(s)
		if e != api.OK || at != len(s) {
			t.Errorf("Parse(%q) is at %d, %d", s, at, e)
		}
		if got := show(n); got != want {
			t.Errorf("Parse(%q) is %s, not %s", s, got, want)
		}
		checkPattern(t, s)
	}
}

// P5.4: what is no expression is told where what is wrong first begins.
func TestFaults(t *testing.T) {
	for s, want := range map[string]int{
		// bytes of no rune
		"\xff": 0, "\x80": 0, "ab\xffc": 2, "é\xc3": 2, "a\xe2\x82": 1, "\xed\xa0\x80": 0, "\xf4\x90\x80\x80": 0, "\xc0\x80": 0,
		"\ufffd\xef\xbf": 3, "(\xff": 1, "a|\xff": 2, "a\xff*": 1,
		// brackets that close nothing
		")": 0, "a)": 1, "(a))": 3, "(?:a))": 5, "a|)": 2, "()())": 4, "]": 0, "a]": 1, "[a]]": 3, "[a]b]": 4, "}": 0, "a}": 1, "a{2}}": 4, "(])": 1, "(})": 1,
		// what repeats nothing
		"*": 0, "+": 0, "?": 0, "{2}": 0, "{": 0, "a**": 2, "a*+": 2, "a++": 2, "a?*": 2, "a*??": 3, "a*?*": 3, "a???": 3, "a{2}{3}": 4, "a{2}*": 4, "a{2}??": 5,
		"(*": 1, "(?:*": 3, "(?:?)": 3, "a|*": 2, "|+": 1, "a|{2}": 2, "(a|?)": 3, "(?:)?*": 5, "(?a)": 1, "(?": 1, "(??:a)": 1, "(? :a)": 1, "(?=a)": 1,
		// what is no form of how often
		"a{": 1, "a{}": 1, "a{x}": 1, "a{2": 1, "a{2,": 1, "a{2,3": 1, "a{2x}": 1, "a{2,x}": 1, "a{,3}": 1, "a{,}": 1, "a{2,,3}": 1, "a{2,3,}": 1, "a{ 2}": 1, "a{2 }": 1,
		"a{3,2}": 1, "a{1,0}": 1, "a{20,19}": 1, "a{21}": 1, "a{21,}": 1, "a{0,21}": 1, "a{21,21}": 1, "a{100}": 1, "a{01}": 1, "a{00}": 1, "a{0,01}": 1, "a{01,}": 1, "a{1,00}": 1,
		"a{+1}": 1, "a{-1}": 1, "a{-0}": 1, "a{1,-1}": 1, "a{1,+2}": 1, "a{1_0}": 1, "a{0x1}": 1, "a{2\xff}": 1, "a{\xff": 1, "a{٣}": 1, "a{２}": 1,
		"a{18446744073709551618}": 1, "a{9223372036854775807,}": 1, "a{" + strings.Repeat("9", 190) + "}": 1, "a{" + strings.Repeat("0", 190) + "}": 1,
		// what is no escape
		`\`: 0, `a\`: 1, `a\q`: 1, `\a`: 0, `\N`: 0, `\D`: 0, `\W`: 0, `\S`: 0, `\r`: 0, `\f`: 0, `\x41`: 0, `\0`: 0, `\1`: 0, `\ `: 0, `\,`: 0, `\"`: 0, `\/`: 0, `\_`: 0, `\é`: 0, "\\\xff": 0, "\\\ufffd": 0, `\\\`: 2, "\\\n": 0, `(\`: 1, `\:`: 0, `\=`: 0,
		// what is no class
		"[": 0, "[]": 0, "a[]": 1, "[^": 0, "[^]": 0, "[]a]": 0, "[^]a]": 0, "[a": 0, "a[bc": 1, "[a-": 0, "[a-]": 0, "[-a]": 0, "[-]": 0, "[a-c-e]": 0, "[a--]": 0, "[--a]": 0,
		"[b-a]": 0, "[xb-a]": 0, "[a^]": 0, "[^^]": 0, "[a-^]": 0, "[^-a]": 0, "[]-a]": 0, `[\-a]]`: 5, `[a-\]`: 0, `[\]`: 0, `[\`: 0, `[a\`: 0, `[\q]`: 0, `[\b]`: 0, `[\B]`: 0, `[a\b]`: 0, `[a-\b]`: 0, `[\b-c]`: 0,
		`[\d-z]`: 0, `[a-\d]`: 0, `[\w-z]`: 0, `[!-\s]`: 0, `[\s-a]`: 0, `[0-\w]`: 0, `[\D]`: 0, `[\n-\t]`: 0,
		"[\xff]": 0, "[a\xff]": 0, "[\xff-a]": 0, "[a-\xff]": 0, "[^\xff]": 0, "[\\\xff]": 0, "[a\xff": 0, "x[\xc3]": 1, "[\ufffd\xff]": 0,
		"[^\x00-\U0010ffff]": 0, `[^\w\x00-\U0010ffff]`: 0, "[^\n.\x00-\x09\x0b-\U0010ffff]": 0,
		// brackets that nothing closes
		"(": 1, "(a": 2, "((a)": 4, "(?:": 3, "(?:a|": 5, "(((": 3, "(a|b": 4, "é(": 3, "(()": 3, `(\)`: 3, "([)]": 4, "(a)(": 4,
		// of several ones, the one that begins first
		"*)": 0, ")*": 0, "(*]": 1, "[a)*": 0, "a{)": 1, "(\\q": 1, "([": 1, "(a{": 2, "[(": 0, "a{[": 1, "])": 0, "(a**": 3, "\\\xff)": 0,
	} {
		n, at, e := syntax.Parse(s)
		if e != api.ErrParse || at != want {
			t.Errorf("Parse(%q) is at %d, %d, not at %d", s, at, e, want)
		}
		if show(n) != "Empty" || n.Class != nil || n.Kids != nil {
			t.Errorf("Parse(%q) tells %s", s, show(n))
		}
		checkPattern(t, s)
	}
}

// P5.4: more bytes than there may be are told ahead of all else; as many as
// there may be are not.
func TestMostBytes(t *testing.T) {
	const most = api.MaxPattern
	for _, s := range []string{strings.Repeat("a", most+1), strings.Repeat("*", most+1), strings.Repeat("()", most), strings.Repeat("\xff", most+1), strings.Repeat("(", 1<<20), strings.Repeat("é", most/2) + "a"} {
		n, at, e := syntax.Parse(s)
		if e != api.ErrBig || at != most || show(n) != "Empty" {
			t.Errorf("Parse of %d bytes is %s, at %d, %d", len(s), show(n), at, e)
		}
	}
	for _, s := range []string{strings.Repeat("a", most), strings.Repeat("é", most/2), strings.Repeat("|", most), strings.Repeat("(?:", most/4) + strings.Repeat(")", most/4), strings.Repeat("a*", most/2), strings.Repeat(`\`, most)} {
		checkPattern(t, s)
		if _, at, e := syntax.Parse(s); e != api.OK || at != most {
			t.Errorf("Parse(%q) is at %d, %d", s, at, e)
		}
	}
	checkPattern(t, strings.Repeat("(?:", most/3))
	checkPattern(t, strings.Repeat("a*", most/2-1)+"a(")
}

// P5.4: more groups than there may be are told where the first too many begins,
// if nothing is wrong ahead of it.
func TestMostGroups(t *testing.T) {
	eight := strings.Repeat("()", api.MaxGroups)
	for s, want := range map[string]int{
		eight + "()": 16, eight + "(": 16, eight + "(*": 16, eight + "(?a)": 16, eight + "(?": 16, eight + "(\xff": 16, eight + "())": 16, eight + "()()": 16, eight + "(\\": 16,
		strings.Repeat("(", 9): 8, strings.Repeat("(", 12): 8, strings.Repeat("(", 9) + strings.Repeat(")", 9): 8,
		strings.Repeat("(?:", 5) + eight + "(": 31, `\([(](?:)` + eight + "a()": 26,
		strings.Repeat("(a)*", 9): 32, strings.Repeat("(a|", 9): 24, "é" + eight + "()": 18,
	} {
		n, at, e := syntax.Parse(s)
		if e != api.ErrBig || at != want || show(n) != "Empty" {
			t.Errorf("Parse(%q) is %s, at %d, %d, not at %d", s, show(n), at, e, want)
		}
		checkPattern(t, s)
	}
	for s, want := range map[string]int{
		"*" + eight + "()": 0, eight + ")()": 16, eight + "**()": 17, eight + "\xff()": 16, eight + "[()": 16, eight + "a{(": 17, eight + `\q()`: 16, eight + "](": 16,
	} {
		if _, at, e := syntax.Parse(s); e != api.ErrParse || at != want {
			t.Errorf("Parse(%q) is at %d, %d, not at %d", s, at, e, want)
		}
		checkPattern(t, s)
	}
	for _, s := range []string{eight, eight + "(?:)", eight + `\(`, eight + "[(]", strings.Repeat("(", 8) + strings.Repeat(")", 8)} {
		n, at, e := syntax.Parse(s)
		if e != api.OK || at != len(s) || syntax.Groups(n) != api.MaxGroups {
			t.Errorf("Parse(%q) is %s, at %d, %d", s, show(n), at, e)
		}
		checkPattern(t, s)
	}
}

// every is many runes with one rune between each two.
func every(first rune, many int) string {
	var out strings.Builder
	for i := range many {
		r := first + 2*rune(i)
		if strings.ContainsRune(`\]-^`, r) {
			out.WriteByte('\\')
		}
		out.WriteRune(r)
	}
	return out.String()
}

// P5.2: a class has at most MaxRanges Ranges, once all is done to it.
func TestMostRanges(t *testing.T) {
	const most = api.MaxRanges
	for _, c := range []struct {
		s    string
		many int // of its Ranges; 0, if it is no class
	}{
		{"[" + every(0, most) + "]", most},
		{"[" + every(0, most+1) + "]", 0},
		{"[" + every(0x41, most) + "]", most},
		{"[" + every(0x41, most+1) + "]", 0},
		{"[" + every(0, most+1) + "a]", most}, // the one that closes a gap comes last
		{"[^" + every(0, most) + "]", most},
		{"[^" + every(0, most+1) + "]", 0},
		{"[^" + every(1, most) + "]", 0},
		{"[^" + every(1, most-1) + "]", most},
		{"[^" + every(0, most) + "\U0010ffff]", most}, // more of them, if it were not for the `^`
		{"[^" + every(0, most+1) + "\U0010ffff]", 0},
	} {
		n, at, e := syntax.Parse(c.s)
		switch {
		case c.many == 0 && (e != api.ErrParse || at != 0 || show(n) != "Empty"):
			t.Errorf("Parse(%q) is at %d, %d", c.s, at, e)
		case c.many > 0 && (e != api.OK || len(n.Class) != c.many || !class.Right(n.Class)):
			t.Errorf("Parse(%q) is %s, at %d, %d", c.s, show(n), at, e)
		}
		checkPattern(t, c.s)
		if _, at, e := syntax.Parse("ab" + c.s + ")"); c.many == 0 && at != 2 || e != api.ErrParse {
			t.Errorf("Parse(%q) is at %d, %d", "ab"+c.s+")", at, e)
		}
	}
}

// P5.2: of all runes of one byte, and some others, which stand for themselves,
// alone, behind a backslash, in a class, and as its ends.
func TestEveryRune(t *testing.T) {
	others := []rune{0x80, 0xe9, 0x7ff, 0x800, 0xd7ff, 0xe000, 0xfffd, 0xffff, 0x10000, 0x10ffff}
	for r := range rune(0x80) {
		others = append(others, r)
	}
	for _, r := range others {
		s := string(r)
		for _, pattern := range []string{s, "a" + s, s + "*", `\` + s, `a\` + s + "b", "[" + s + "]", "[^" + s + "]", `[\` + s + "]", "[" + s + "-z]", "[!-" + s + "]", `[\` + s + "-z]", `[!-\` + s + "]", "(?" + s, "(" + s, "a{" + s, "a{1" + s, "a{1," + s, "a*" + s} {
			checkPattern(t, pattern)
		}
	}
}

// eachText goes through all texts of up to most parts.
func eachText(most int, parts []string, try func(s string)) {
	var more func(s string, many int)
	more = func(s string, many int) {
		try(s)
		if many == most {
			return
		}
		for _, part := range parts {
			more(s+part, many+1)
		}
	}
	more("", 0)
}

// P5.2 to P5.6: all texts of a few parts follow the chapter's rules.
func TestEveryText(t *testing.T) {
	for _, c := range []struct {
		ahead string
		parts string
		most  int
	}{
		{"", "a b ( (?: ) | *", 5},
		{"", "a ( ) ? : * |", 5},
		{"(?:a|b)", "a (?: ) | +? ( {2}", 5},
		{"[", `a b [ ] ^ - \`, 5},
		{"", `[ [^ ] - \d \n a-c \`, 5},
		{"a{", "0 1 2 , } ? {", 5},
		{"(a{1", "0 2 , } ) 9", 5},
		{"", "a \xef \xbf \xbd [ ] \\ \xff", 5},
		{"()(()())(", "( ) (?: a | ] *", 5},
		{"", `\ b B d w s n t - q`, 3},
	} {
		eachText(c.most, strings.Fields(c.parts), func(s string) { checkPattern(t, c.ahead+s) })
	}
}

// lists are all the lists that n is made of.
func lists(n syntax.Node) (kids [][]syntax.Node, classes []class.Class) {
	kids, classes = [][]syntax.Node{n.Kids}, []class.Class{n.Class}
	for _, kid := range n.Kids {
		more, others := lists(kid)
		kids, classes = append(kids, more...), append(classes, others...)
	}
	return kids, classes
}

// P3 of the whole: no two lists of an answer share memory, spare room too.
func TestListsAreNew(t *testing.T) {
	for _, s := range []string{`\d\d\w\w\s\s..[a][a]`, "(?:ab)(?:cd)(?:ef)", "(?:a|b|c)|(?:d|e|f)|g", "((a|b)c)*(d(?:e|f)){2,3}|(?:(?:gh)i)j", "a(?:)", "(?:(?:a))", "^*$*"} {
		n, _, _ := syntax.Parse(s)
		before := show(n)
		kids, classes := lists(n)
		for i, l := range classes {
			for j := range l[:cap(l)] {
				l[:cap(l)][j] = class.Range{Low: rune(i)}
			}
		}
		for i, l := range kids {
			for j := range l[:cap(l)] {
				l[:cap(l)][j].Min = 1000 + i
			}
		}
		for i, l := range classes {
			for _, r := range l[:cap(l)] {
				if r != (class.Range{Low: rune(i)}) {
					t.Errorf("Parse(%q): class %d shares memory", s, i)
				}
			}
		}
		for i, l := range kids {
			for _, kid := range l[:cap(l)] {
				if kid.Min != 1000+i {
					t.Errorf("Parse(%q): kids %d share memory", s, i)
				}
			}
		}
		if again, _, _ := syntax.Parse(s); show(again) != before {
			t.Errorf("Parse(%q) is %s, once an answer was written into", s, show(again))
		}
	}
}
