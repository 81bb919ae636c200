package sum_test

import (
	"hash/adler32"
	"math"
	"math/big"
	"strings"
	"testing"

	"waxwork/sum"
)

const prime = 65521

// plainAdd is the chapter's rule for Add, word for word.
func plainAdd(from uint32, s string) uint32 {
	a, b := uint64(from&0xffff)%prime, uint64(from>>16)%prime
	for i := 0; i < len(s); i++ {
		a = (a + uint64(s[i])) % prime
		b = (b + a) % prime
	}
	return uint32(b*65536 + a)
}

// plainJoin is the chapter's rule for Join, word for word, in numbers that
// can't wrap.
func plainJoin(a, b uint32, many int) uint32 {
	if many < 0 {
		many = 0
	}
	low := func(n uint32) *big.Int { return big.NewInt(int64(n & 0xffff % prime)) }
	high := func(n uint32) *big.Int { return big.NewInt(int64(n >> 16 % prime)) }
	one, modulus := big.NewInt(1), big.NewInt(prime)
	less := new(big.Int).Mod(new(big.Int).Sub(low(a), one), modulus)
	outA := new(big.Int).Add(less, low(b))
	outB := new(big.Int).Mul(big.NewInt(int64(many)), less)
	outB.Add(outB, high(b)).Add(outB, high(a))
	return uint32(outB.Mod(outB, modulus).Uint64()*65536 + outA.Mod(outA, modulus).Uint64())
}

// texts are ordinary ones, and those at which a half comes to just below
// prime, just prime, or just above.
func texts() []string {
	out := []string{
		"", "a", "abc", "message digest", "Wikipedia", "\x00", "\x00\x00\x00", "\x01", "\xff",
		"grüße, 世界 \U0001f600", "not UTF-8: \xc3\x28\xff\xfe", strings.Repeat("\x00", 65521),
	}
	full := strings.Repeat("\xff", 256) // with the 1 of the beginning a comes to 65281
	for last := 237; last <= 243; last++ {
		out = append(out, full+string([]byte{byte(last)}), full+string([]byte{byte(last), 0}))
	}
	for many := 20; many <= 25; many++ { // b passes prime here, and a not yet
		out = append(out, strings.Repeat("\xff", many))
	}
	for _, many := range []int{5551, 5552, 5553, 65520, 65521, 65522, 100000} {
		out = append(out, strings.Repeat("\xff", many), strings.Repeat("waxwork", many/7))
	}
	return out
}

// sums have halves at the edges: 0, 1, about prime, and the greatest.
func sums() []uint32 {
	var out []uint32
	edges := []uint32{0, 1, 2, 255, 256, 32768, 65519, 65520, 65521, 65522, 65534, 65535}
	for _, a := range edges {
		for _, b := range edges {
			out = append(out, b<<16|a)
		}
	}
	return append(out, 0x024d0127, 0x11e60398, 0xdeadbeef)
}

// P1.1: Of is what the chapter says, its example with it.
func TestOf(t *testing.T) {
	for _, c := range []struct {
		s    string
		want uint32
	}{
		{"abc", 0x024d0127}, // the chapter's example
		{"", 1},
		{"\x00", 0x00010001},
		{"\x00\x00", 0x00020001},
		{"\xff", 0x01000100},
		{"\x01\x02", 0x00060004},
		{"\x02\x01", 0x00070004},
		{"ab\x00c", 0x03110127},
	} {
		if got := sum.Of(c.s); got != c.want {
			t.Errorf("Of(%q) is %08x, not %08x", c.s, got, c.want)
		}
	}
	for _, s := range texts() {
		if got, want := sum.Of(s), adler32.Checksum([]byte(s)); got != want || plainAdd(1, s) != want {
			t.Errorf("Of(%.20q.., %d bytes) is %08x, not %08x", s, len(s), got, want)
		}
	}
}

// P1.1: each half of Of comes to 0 and to 65520, and to nothing above.
func TestOfAtPrime(t *testing.T) {
	full := strings.Repeat("\xff", 256)
	for _, c := range []struct {
		s string
		a uint32
	}{{full + "\xee", 65519}, {full + "\xef", 65520}, {full + "\xf0", 0}, {full + "\xf1", 1}} {
		if got := sum.Of(c.s) & 0xffff; got != c.a {
			t.Errorf("a of a text that ends in %x is %d, not %d", c.s[256:], got, c.a)
		}
	}
	for _, c := range []struct {
		many int
		b    uint32
	}{{65520, 65520}, {65521, 0}, {65522, 1}} {
		if got := sum.Of(strings.Repeat("\x00", c.many)); got != c.b<<16|1 {
			t.Errorf("Of(%d bytes of 0) is %08x", c.many, got)
		}
	}
}

// P1.1: Add begins with the halves of what it is given, each modulo 65521.
func TestAdd(t *testing.T) {
	for _, c := range []struct {
		from uint32
		s    string
		want uint32
	}{
		{1, "", 1},
		{0, "", 0},
		{0, "a", 0x00610061},
		{0, "\x00\x00", 0},
		{1, "abc", 0x024d0127},
		{65520<<16 | 65520, "", 65520<<16 | 65520},
		{65521, "", 0},
		{65521 << 16, "", 0},
		{65522<<16 | 65523, "", 1<<16 | 2},
		{0xffffffff, "", 14<<16 | 14},
		{0xffff0001, "", 14<<16 | 1},
		{0x0001ffff, "", 1<<16 | 14},
		{0xffffffff, "\x01", 29<<16 | 15},
		{65520, "\x01", 0},
		{65520, "\x02", 1<<16 | 1},
		{65520<<16 | 1, "\x00", 1},
		{65520<<16 | 65520, "\xff", 253<<16 | 254},
	} {
		if got := sum.Add(c.from, c.s); got != c.want {
			t.Errorf("Add(%08x, %q) is %08x, not %08x", c.from, c.s, got, c.want)
		}
	}
	for _, from := range sums() {
		for _, s := range []string{"", "\x00", "\x01", "\xff", "abc", strings.Repeat("\xff", 300)} {
			if got, want := sum.Add(from, s), plainAdd(from, s); got != want {
				t.Errorf("Add(%08x, %.20q) is %08x, not %08x", from, s, got, want)
			}
		}
	}
}

// P1.1: Check says yes to the sum itself alone, and not to what is the same
// modulo 65521.
func TestCheck(t *testing.T) {
	for _, s := range texts() {
		right := sum.Of(s)
		if !sum.Check(s, right) {
			t.Errorf("Check(%.20q, %08x) is false", s, right)
		}
		for bit := range 32 {
			if sum.Check(s, right^1<<bit) {
				t.Errorf("Check(%.20q, %08x) is true", s, right^1<<bit)
			}
		}
	}
	for _, c := range []struct {
		s   string
		sum uint32
	}{
		{"", 0}, {"", 65522}, {"", 65521<<16 | 1}, {"", 65521<<16 | 65522}, {"", math.MaxUint32},
		{"\x01", 2<<16 | 65523}, {"\x01", 65523<<16 | 2}, {"acb", 0x024d0127}, {"ab", 0x024d0127},
	} {
		if sum.Check(c.s, c.sum) {
			t.Errorf("Check(%q, %08x) is true", c.s, c.sum)
		}
	}
}

// P1.2: Join of numbers that the chapter's rule gives by hand: a.a of 0, halves
// of 65521 and above, and counts below 0, of 0, about 65521, and the greatest.
func TestJoin(t *testing.T) {
	for _, c := range []struct {
		a, b uint32
		many int
		want uint32
	}{
		{1, 1, 0, 1},
		{1, 0x024d0127, 3, 0x024d0127},
		{0x024d0127, 1, 0, 0x024d0127},
		{0x00620062, 0x012900c6, 2, 0x024d0127},
		{0, 1, 0, 0},
		{0, 0, 0, 65520},
		{0, 0, 1, 65520<<16 | 65520},
		{0, 1, 2, 65519 << 16},
		{65521, 1, 1, 65520 << 16},
		{65521<<16 | 65522, 65521<<16 | 65521, 7, 0},
		{0xffffffff, 0xffffffff, 0, 28<<16 | 27},
		{0xffffffff, 0xffffffff, 2, 54<<16 | 27},
		{5, 1, 1, 4<<16 | 5},
		{5, 1, 65520, 65517<<16 | 5},
		{5, 1, 65521, 5},
		{5, 1, 65522, 4<<16 | 5},
		{5, 1, 2*65521 + 3, 12<<16 | 5},
		{5, 1, -1, 5},
		{5, 1, -9, 5},
		{5, 1, -65521, 5},
		{5, 1, math.MinInt, 5},
		{3<<16 | 5, 2<<16 | 1, -1, 5<<16 | 5},
		{65520<<16 | 65520, 65520<<16 | 65520, 65520, 65518},
	} {
		if got := sum.Join(c.a, c.b, c.many); got != c.want {
			t.Errorf("Join(%08x, %08x, %d) is %08x, not %08x", c.a, c.b, c.many, got, c.want)
		}
	}
}

// P1.2: Join follows the chapter's rule at all edges at once.
func TestJoinAtEdges(t *testing.T) {
	counts := []int{
		math.MinInt, math.MinInt + 1, -65522, -65521, -65520, -1, 0, 1, 2, 3, 255, 65519, 65520, 65521, 65522,
		65535, 65536, 131042, 1 << 31, 1<<31 - 1, 1 << 32, 1<<62 + 7, math.MaxInt - 1, math.MaxInt,
	}
	for _, a := range sums() {
		for _, b := range sums() {
			for _, many := range counts {
				if got, want := sum.Join(a, b, many), plainJoin(a, b, many); got != want {
					t.Fatalf("Join(%08x, %08x, %d) is %08x, not %08x", a, b, many, got, want)
				}
			}
		}
	}
}

// P1.3: of two texts, one behind the other, the sum is Add's, and Join's.
func TestBehindOneAnother(t *testing.T) {
	all := texts()
	for _, first := range all {
		for _, second := range all {
			want := adler32.Checksum([]byte(first + second))
			if got := sum.Of(first + second); got != want {
				t.Errorf("Of is %08x, not %08x", got, want)
			}
			if got := sum.Add(sum.Of(first), second); got != want {
				t.Errorf("Add of %d and %d bytes is %08x, not %08x", len(first), len(second), got, want)
			}
			if got := sum.Join(sum.Of(first), sum.Of(second), len(second)); got != want {
				t.Errorf("Join of %d and %d bytes is %08x, not %08x", len(first), len(second), got, want)
			}
		}
	}
}

// P1.3: it is so wherever a text is cut, within a rune too, and of a first
// text whose a is 0.
func TestCutAnywhere(t *testing.T) {
	zero := strings.Repeat("\xff", 256) + "\xf0"
	if sum.Of(zero)&0xffff != 0 {
		t.Fatal("a of this text should be 0")
	}
	for _, s := range []string{zero + "behind", "grüße, 世界", strings.Repeat("\xff\x00\x7f", 200)} {
		want := sum.Of(s)
		for cut := range len(s) + 1 {
			first, second := sum.Of(s[:cut]), sum.Of(s[cut:])
			if sum.Add(first, s[cut:]) != want || sum.Join(first, second, len(s)-cut) != want {
				t.Errorf("%.20q.. cut at %d: Add or Join is not %08x", s, cut, want)
			}
		}
	}
}
