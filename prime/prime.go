// Package prime is layer 1: the field of P numbers, P = 2^64 - 2^32 + 1.
package prime

import (
	"math/bits"

	"assayer/api"
)

// rest is what 2^64 leaves modulo P.
const rest = 1<<32 - 1

// Right tells whether a is as numbers are kept.
func Right(a uint64) bool { return a < api.P }

// kept is what a leaves modulo P.
func kept(a uint64) uint64 {
	// Every uint64 is below 2 P, so that taking P away once is enough.
	if a >= api.P {
		return a - api.P
	}
	return a
}

// Add is a + b.
func Add(a, b uint64) uint64 {
	sum, carry := bits.Add64(kept(a), kept(b), 0)
	// With a carry the sum is 2^64 too small, and taking P away wraps round to just the right number.
	if carry == 1 || sum >= api.P {
		return sum - api.P
	}
	return sum
}

// Neg is 0 - a.
func Neg(a uint64) uint64 {
	a = kept(a)
	if a == 0 {
		return 0
	}
	return api.P - a
}

// Sub is a - b.
func Sub(a, b uint64) uint64 { return Add(a, Neg(b)) }

// Mul is a times b.
func Mul(a, b uint64) uint64 {
	hi, lo := bits.Mul64(a, b)
	// 2^64 leaves rest and 2^96 leaves -1; a half of hi times rest is below 2^64.
	top, low := hi>>32, hi&rest
	return Add(Sub(lo, top), low*rest)
}

// Pow is a to the n; n is a plain number and no number of the field, so that it isn't taken modulo P.
func Pow(a, n uint64) uint64 {
	out := uint64(1)
	for base := kept(a); n > 0; n >>= 1 {
		if n&1 == 1 {
			out = Mul(out, base)
		}
		base = Mul(base, base)
	}
	return out
}

// Inv is what gives 1 with a; of 0 there is none.
func Inv(a uint64) (uint64, bool) {
	if kept(a) == 0 {
		return 0, false
	}
	// a to the P - 1 is 1 (Fermat).
	return Pow(a, api.P-2), true
}

// Sum is the sum of all of l, 0 of none.
func Sum(l ...uint64) uint64 {
	out := uint64(0)
	for _, a := range l {
		out = Add(out, a)
	}
	return out
}

// Prod is the product of all of l, 1 of none.
func Prod(l ...uint64) uint64 {
	out := uint64(1)
	for _, a := range l {
		out = Mul(out, a)
	}
	return out
}
