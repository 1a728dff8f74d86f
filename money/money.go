// Package money is layer 1: see shared/doc/01-money.md.
package money

import (
	"math"

	"bullion/api"
)

// Add is a sum.
func Add(a, b uint64) (uint64, api.Errno) {
	// The room above a is asked for first: a sum that wraps round is never made.
	if b > math.MaxUint64-a {
		return 0, api.ErrOver
	}
	return a + b, api.OK
}

// Sub is a difference.
func Sub(a, b uint64) (uint64, api.Errno) {
	if b > a {
		return 0, api.ErrUnder
	}
	return a - b, api.OK
}

// Mul is a product.
func Mul(a, b uint64) (uint64, api.Errno) {
	// As for a sum, but by dividing, which a of 0 would forbid.
	if a != 0 && b > math.MaxUint64/a {
		return 0, api.ErrOver
	}
	return a * b, api.OK
}

// Sum is the sum of all.
func Sum(list ...uint64) (uint64, api.Errno) {
	var sum uint64
	for _, n := range list {
		// Nothing is negative, so a sum that is too much stays so whatever follows.
		next, e := Add(sum, n)
		if e != api.OK {
			return 0, e
		}
		sum = next
	}
	return sum, api.OK
}

// Rise is a sum that stops at an end.
func Rise(a, by, most uint64) uint64 {
	sum, e := Add(a, by)
	if e != api.OK {
		return most
	}
	return min(sum, most)
}

// Fall is a difference that stops at 0.
func Fall(a, by uint64) uint64 {
	return a - min(a, by)
}

// Take is as much as there is.
func Take(a, wish uint64) (got, left uint64) {
	got = min(a, wish)
	return got, a - got
}
