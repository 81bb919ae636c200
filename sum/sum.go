// Package sum is layer 1: see shared/doc/01-sum.md.
package sum

// prime is the modulus of both halves of a sum.
const prime = 65521

// Of is the sum of s.
func Of(s string) (told uint32) {
	return Add(1, s)
}

// Add goes on from sum with the bytes of s: where sum is that of the text
// ahead of s, it tells the sum of both.
func Add(sum uint32, s string) (told uint32) {
	a, b := halves(sum)
	for i := range len(s) {
		a = wrap(a + uint32(s[i]))
		b = wrap(b + a)
	}
	return whole(a, b)
}

// Join is the sum of two texts, one behind the other, got from their sums a
// and b alone, and from how many bytes the second one has.
func Join(a, b uint32, many int) (told uint32) {
	firstA, firstB := halves(a)
	secondA, secondB := halves(b)
	// The second text's sum began at 1, and ought to have begun at firstA: so
	// much is missing in its a, and as often as it has bytes in its b.
	missing := wrap(firstA + prime - 1)
	return whole(
		wrap(secondA+missing),
		wrap(wrap(secondB+firstB)+times(missing, many)),
	)
}

// Check tells whether sum is that of s, bit for bit: halves that are the same
// only modulo prime are not.
func Check(s string, sum uint32) (told bool) {
	return Of(s) == sum
}

// halves are a and b of a sum. Any 32 bits may be handed in, so that each may
// have to be brought below prime.
func halves(sum uint32) (a, b uint32) {
	return (sum & 0xffff) % prime, (sum >> 16) % prime
}

// whole is the sum that has the halves a and b.
func whole(a, b uint32) uint32 {
	return b<<16 | a
}

// wrap is n modulo prime, of an n that is below two times prime: a division a
// byte would be most of what a sum costs.
func wrap(n uint32) uint32 {
	if n >= prime {
		return n - prime
	}
	return n
}

// times is n, taken many times, modulo prime; none, where many is below 0. many
// is brought below prime first, for what would not fit.
func times(n uint32, many int) uint32 {
	return uint32(uint64(n) * (uint64(max(many, 0)) % prime) % prime)
}
