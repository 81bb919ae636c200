package vary_test

import (
	"encoding/binary"
	"math"
	"math/big"
	"strings"
	"testing"

	"waxwork/api"
	"waxwork/vary"
)

// numbers are those at which a Put gets longer, and their neighbours.
func numbers() []uint64 {
	out := []uint64{0, 1, 2, 300, 255, 256, 65535, 65536, math.MaxInt64, math.MaxInt64 + 1, math.MaxUint64 - 1, math.MaxUint64}
	for bit := range 64 {
		out = append(out, 1<<bit-1, 1<<bit, 1<<bit+1, 0x5a5a5a5a5a5a5a5a>>bit)
	}
	return out
}

// puts are texts that begin as a Put, or nearly so: up to twelve bytes of 128
// and above, and one or two of some kinds behind.
func puts() []string {
	kinds := []string{"", "\x00", "\x01", "\x02", "\x03", "\x40", "\x7e", "\x7f", "\x80", "\x81", "\xfe", "\xff"}
	var out []string
	for many := range 13 {
		for _, high := range []string{"\x80", "\x81", "\xff"} {
			for _, one := range kinds {
				for _, two := range kinds {
					out = append(out, strings.Repeat(high, many)+one+two)
				}
			}
		}
	}
	return out
}

// plainNext is the chapter's rule for Next, case by case: how many bytes of s
// go by, the number, and the error.
func plainNext(s string) (int, uint64, api.Errno) {
	end := 0
	for end < len(s) && s[end] >= 128 {
		end++
	}
	if end == len(s) && end <= 9 {
		return 0, 0, api.ErrShort
	}
	if len(s) >= 10 && end >= 9 && s[9] > 1 {
		return 0, 0, api.ErrBig
	}
	if s[end] == 0 && end > 0 {
		return 0, 0, api.ErrVary
	}
	n := new(big.Int)
	for i := end; i >= 0; i-- {
		n.Lsh(n, 7).Add(n, big.NewInt(int64(s[i]&127)))
	}
	return end + 1, n.Uint64(), api.OK
}

// reader is one with s to be read.
func reader(s string) vary.Reader { return vary.Reader{Rest: s} }

// failed is a reader that ended with e.
func failed(e api.Errno) vary.Reader { return vary.Reader{E: e} }

// P2.1: Put is what the chapter says, its example with it.
func TestPut(t *testing.T) {
	for _, c := range []struct {
		n    uint64
		want string
	}{
		{300, "\xac\x02"}, // the chapter's example
		{0, "\x00"},
		{1, "\x01"},
		{127, "\x7f"},
		{128, "\x80\x01"},
		{129, "\x81\x01"},
		{255, "\xff\x01"},
		{256, "\x80\x02"},
		{16383, "\xff\x7f"},
		{16384, "\x80\x80\x01"},
		{1<<21 - 1, "\xff\xff\x7f"},
		{1 << 21, "\x80\x80\x80\x01"},
		{1<<63 - 1, "\xff\xff\xff\xff\xff\xff\xff\xff\x7f"},
		{1 << 63, "\x80\x80\x80\x80\x80\x80\x80\x80\x80\x01"},
		{math.MaxUint64, "\xff\xff\xff\xff\xff\xff\xff\xff\xff\x01"},
	} {
		if got := vary.Put(c.n); got != c.want {
			t.Errorf("Put(%d) is %x, not %x", c.n, got, c.want)
		}
	}
	for _, n := range numbers() {
		if got, want := vary.Put(n), string(binary.AppendUvarint(nil, n)); got != want {
			t.Errorf("Put(%d) is %x, not %x", n, got, want)
		}
	}
}

// P2.1: Text is Put of how many bytes, not runes, there are, and these.
func TestPutText(t *testing.T) {
	for _, c := range []struct{ s, want string }{
		{"", "\x00"},
		{"a", "\x01a"},
		{"\x00", "\x01\x00"},
		{"grüße", "\x07grüße"},
		{"\xff\xfe", "\x02\xff\xfe"},
		{strings.Repeat("x", 127), "\x7f" + strings.Repeat("x", 127)},
		{strings.Repeat("x", 128), "\x80\x01" + strings.Repeat("x", 128)},
		{strings.Repeat("é", 64), "\x80\x01" + strings.Repeat("é", 64)},
		{strings.Repeat("x", 16384), "\x80\x80\x01" + strings.Repeat("x", 16384)},
	} {
		if got := vary.Text(c.s); got != c.want {
			t.Errorf("Text of %d bytes is %.10x.., not %.10x..", len(c.s), got, c.want)
		}
	}
}

// P2.2: Next by hand: each error, at its edges, and numbers with something
// behind them.
func TestNext(t *testing.T) {
	nine := strings.Repeat("\xff", 9)
	low := strings.Repeat("\x80", 9)
	for _, c := range []struct {
		s    string
		want uint64
		rest string
		e    api.Errno
	}{
		{"\x00", 0, "", api.OK},
		{"\x00\x00", 0, "\x00", api.OK},
		{"\x7f\xff", 127, "\xff", api.OK},
		{"\xac\x02abc", 300, "abc", api.OK},
		{"\x80\x01", 128, "", api.OK},
		{nine + "\x01", math.MaxUint64, "", api.OK},
		{nine + "\x01\x00", math.MaxUint64, "\x00", api.OK},
		{low + "\x01x", 1 << 63, "x", api.OK},
		{nine[1:] + "\x7f", math.MaxInt64, "", api.OK},
		{"", 0, "", api.ErrShort},
		{"\x80", 0, "", api.ErrShort},
		{"\xff\x80", 0, "", api.ErrShort},
		{nine, 0, "", api.ErrShort},
		{low, 0, "", api.ErrShort},
		{nine + "\x02", 0, "", api.ErrBig},
		{nine + "\x7f", 0, "", api.ErrBig},
		{nine + "\x80", 0, "", api.ErrBig},
		{nine + "\x81\x00", 0, "", api.ErrBig},
		{nine + nine, 0, "", api.ErrBig},
		{low + "\x02", 0, "", api.ErrBig},
		{low + low + "\x00", 0, "", api.ErrBig},
		{"\x80\x00", 0, "", api.ErrVary},
		{"\xff\x00x", 0, "", api.ErrVary},
		{"\xff\x80\x00", 0, "", api.ErrVary},
		{nine[1:] + "\x00", 0, "", api.ErrVary},
		{nine + "\x00", 0, "", api.ErrVary},
		{low + "\x00\xff", 0, "", api.ErrVary},
	} {
		got, r := reader(c.s).Next()
		if got != c.want || r != (vary.Reader{Rest: c.rest, E: c.e}) {
			t.Errorf("Next of %x is %d, %v", c.s, got, r)
		}
	}
}

// P2.2: Next follows the chapter's rule of all that nearly is a Put.
func TestNextByRule(t *testing.T) {
	for _, s := range puts() {
		many, n, e := plainNext(s)
		want := failed(e)
		if e == api.OK {
			want = reader(s[many:])
		}
		if got, r := reader(s).Next(); got != n || r != want {
			t.Errorf("Next of %x is %d, %v, not %d, %v", s, got, r, n, want)
		}
	}
}

// P2.2: Bytes, with too few of them, and with a count below 0.
func TestBytes(t *testing.T) {
	for _, c := range []struct {
		s          string
		many       int
		want, rest string
		e          api.Errno
	}{
		{"", 0, "", "", api.OK},
		{"abc", 0, "", "abc", api.OK},
		{"abc", 1, "a", "bc", api.OK},
		{"abc", 3, "abc", "", api.OK},
		{"\xc3\xa9", 1, "\xc3", "\xa9", api.OK},
		{"\x00\xff\x80", 2, "\x00\xff", "\x80", api.OK},
		{"", 1, "", "", api.ErrShort},
		{"abc", 4, "", "", api.ErrShort},
		{"abc", math.MaxInt, "", "", api.ErrShort},
		{"abc", -1, "", "", api.ErrShort},
		{"", -1, "", "", api.ErrShort},
		{"abc", math.MinInt, "", "", api.ErrShort},
	} {
		got, r := reader(c.s).Bytes(c.many)
		if got != c.want || r != (vary.Reader{Rest: c.rest, E: c.e}) {
			t.Errorf("Bytes(%d) of %q is %q, %v", c.many, c.s, got, r)
		}
	}
}

// P2.2: Text, with Next's errors, with what is too much, and with what is
// missing: ErrBig ahead of ErrShort, and numbers that fit into no int.
func TestText(t *testing.T) {
	huge := vary.Put(math.MaxUint64)
	half := vary.Put(1 << 63)
	for _, c := range []struct {
		s          string
		most       uint64
		want, rest string
		e          api.Errno
	}{
		{"\x00", 0, "", "", api.OK},
		{"\x00abc", 9, "", "abc", api.OK},
		{"\x03abcd", 3, "abc", "d", api.OK},
		{"\x03abc", math.MaxUint64, "abc", "", api.OK},
		{"\x80\x01" + strings.Repeat("x", 129), 128, strings.Repeat("x", 128), "x", api.OK},
		{"\x01a", 0, "", "", api.ErrBig},
		{"\x03abc", 2, "", "", api.ErrBig},
		{"\x03ab", 2, "", "", api.ErrBig},
		{"\x03", 2, "", "", api.ErrBig},
		{"\x80\x01", 127, "", "", api.ErrBig},
		{huge + "ab", math.MaxUint64 - 1, "", "", api.ErrBig},
		{half + "ab", math.MaxInt64, "", "", api.ErrBig},
		{"\x03ab", 3, "", "", api.ErrShort},
		{"\x01", 1, "", "", api.ErrShort},
		{"\x80\x01" + strings.Repeat("x", 127), 128, "", "", api.ErrShort},
		{huge + "ab", math.MaxUint64, "", "", api.ErrShort},
		{half + "ab", 1 << 63, "", "", api.ErrShort},
		{vary.Put(1<<32) + "ab", 1 << 32, "", "", api.ErrShort},
		{vary.Put(1<<32+2) + "ab", 1 << 33, "", "", api.ErrShort},
		{"", 0, "", "", api.ErrShort},
		{"\x83", 0, "", "", api.ErrShort},
		{"\x83\x00abc", 2, "", "", api.ErrVary},
		{strings.Repeat("\xff", 9) + "\x02abc", math.MaxUint64, "", "", api.ErrBig},
	} {
		got, r := reader(c.s).Text(c.most)
		if got != c.want || r != (vary.Reader{Rest: c.rest, E: c.e}) {
			t.Errorf("Text(%d) of %.20x is %.20q, %v", c.most, c.s, got, r)
		}
	}
}

// P2.2: Pad, with what is no 0 at each place, and with what is missing, that
// is told ahead of it.
func TestPad(t *testing.T) {
	for _, c := range []struct {
		s    string
		many int
		rest string
		e    api.Errno
	}{
		{"", 0, "", api.OK},
		{"abc", 0, "abc", api.OK},
		{"\x00", 1, "", api.OK},
		{"\x00\x00\x00a", 3, "a", api.OK},
		{"\x00\x00\x00", 2, "\x00", api.OK},
		{"\x00\x01", 1, "\x01", api.OK},
		{"a", 1, "", api.ErrPad},
		{"\x01\x00\x00", 3, "", api.ErrPad},
		{"\x00\x80\x00", 3, "", api.ErrPad},
		{"\x00\x00\xff", 3, "", api.ErrPad},
		{"0", 1, "", api.ErrPad},
		{"", 1, "", api.ErrShort},
		{"\x00\x00", 3, "", api.ErrShort},
		{"\x00\x01", 3, "", api.ErrShort},
		{"a", -1, "", api.ErrShort},
		{"\x00", math.MinInt, "", api.ErrShort},
		{"\x00", math.MaxInt, "", api.ErrShort},
	} {
		if got := reader(c.s).Pad(c.many); got != (vary.Reader{Rest: c.rest, E: c.e}) {
			t.Errorf("Pad(%d) of %x is %v", c.many, c.s, got)
		}
	}
	long := strings.Repeat("\x00", 300)
	if got := reader(long + "a").Pad(300); got != reader("a") {
		t.Errorf("Pad(300) of as many bytes of 0 is %v", got)
	}
	for i := range 300 {
		if got := reader(long[:i] + "\x01" + long).Pad(300); got != failed(api.ErrPad) {
			t.Errorf("Pad(300) with a 1 at %d is %v", i, got)
		}
	}
	for b := range 256 {
		want := failed(api.ErrPad)
		if b == 0 {
			want = reader("x")
		}
		if got := reader(string([]byte{0, byte(b), 'x'})).Pad(2); got != want {
			t.Errorf("Pad(2) of 0, %d is %v", b, got)
		}
	}
}

// P2.2: End is the error, ahead of what is left; ErrTail of that alone.
func TestEnd(t *testing.T) {
	for _, c := range []struct {
		r    vary.Reader
		want api.Errno
	}{
		{vary.Reader{}, api.OK},
		{reader("a"), api.ErrTail},
		{reader("\x00"), api.ErrTail},
		{failed(api.ErrPad), api.ErrPad},
		{failed(api.ErrTail), api.ErrTail},
		{vary.Reader{Rest: "a", E: api.ErrSum}, api.ErrSum},
		{vary.Reader{Rest: "a", E: -1}, -1},
		{failed(99), 99},
	} {
		if got := c.r.End(); got != c.want {
			t.Errorf("End of %v is %d, not %d", c.r, got, c.want)
		}
	}
}

// P2.2, P2.3: a reader that has an error, whichever number that is, tells
// nothing, and itself with nothing left, whatever it is asked.
func TestErrorStays(t *testing.T) {
	errors := []api.Errno{-1, math.MinInt, math.MaxInt}
	for e := api.ErrArg; e <= api.ErrStates; e++ {
		errors = append(errors, e)
	}
	for _, e := range errors {
		for _, rest := range []string{"", "\x00", "\x01a", "\x80\x00", "\x80", "abc"} {
			r := vary.Reader{Rest: rest, E: e}
			if n, got := r.Next(); n != 0 || got != failed(e) {
				t.Errorf("Next of %v is %d, %v", r, n, got)
			}
			for _, most := range []uint64{0, 1, math.MaxUint64} {
				if s, got := r.Text(most); s != "" || got != failed(e) {
					t.Errorf("Text(%d) of %v is %q, %v", most, r, s, got)
				}
			}
			for _, many := range []int{math.MinInt, -1, 0, 1, math.MaxInt} {
				if s, got := r.Bytes(many); s != "" || got != failed(e) {
					t.Errorf("Bytes(%d) of %v is %q, %v", many, r, s, got)
				}
				if got := r.Pad(many); got != failed(e) {
					t.Errorf("Pad(%d) of %v is %v", many, r, got)
				}
			}
		}
	}
}

// P2.3: a first error is told at the end, whatever would follow it.
func TestFirstErrorIsTold(t *testing.T) {
	_, r := reader("\x05abc\x00\x00").Text(4)
	_, r = r.Next()
	_, r = r.Bytes(-1)
	r = r.Pad(1)
	_, r = r.Text(0)
	if r != failed(api.ErrBig) || r.End() != api.ErrBig {
		t.Error(r)
	}
}

// P2.3: what was put is read, in order.
func TestReadInOrder(t *testing.T) {
	texts := []string{"", "a", "\x00\x00", "grüße", strings.Repeat("\xff", 127), strings.Repeat("\x80", 128)}
	var all strings.Builder
	for i, n := range numbers() {
		s := texts[i%len(texts)]
		all.WriteString(vary.Put(n) + vary.Text(s) + "raw" + strings.Repeat("\x00", i%4))
	}
	r := reader(all.String())
	for i, want := range numbers() {
		var n uint64
		var s, raw string
		n, r = r.Next()
		s, r = r.Text(128)
		raw, r = r.Bytes(3)
		r = r.Pad(i % 4)
		if n != want || s != texts[i%len(texts)] || raw != "raw" || r.E != api.OK {
			t.Fatalf("%d: %d %q %q, error %d", i, n, s, raw, r.E)
		}
	}
	if r.End() != api.OK {
		t.Errorf("End is %d", r.End())
	}
}

// P2.3: each number has one Put alone: what is read as a number is its Put.
func TestOnePutAlone(t *testing.T) {
	for _, s := range puts() {
		n, r := reader(s).Next()
		if r.E == api.OK && vary.Put(n)+r.Rest != s {
			t.Errorf("%x is read as %d, and put as %x", s, n, vary.Put(n))
		}
	}
	for n := range uint64(70000) {
		s := vary.Put(n)
		if got, r := reader(s).Next(); got != n || r != (vary.Reader{}) {
			t.Fatalf("%d is put as %x, and read as %d, %v", n, s, got, r)
		}
	}
}

// A reader is a value: one that was read from is as it was.
func TestReaderIsValue(t *testing.T) {
	r := reader("\x02ab\x00")
	for range 2 {
		n, _ := r.Next()
		s, behind := r.Text(2)
		if n != 2 || s != "ab" || behind.Pad(1) != (vary.Reader{}) || r != reader("\x02ab\x00") {
			t.Error(n, s, behind, r)
		}
	}
}
