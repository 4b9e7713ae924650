// Package fix is layer 1, fixed-point numbers: see shared/doc/01-fix.md.
package fix

import (
	"math/bits"

	"bagatelle/api"
)

// fraction is how many bits of a number are behind its point.
const fraction = 32

// counted returns a, or Least for -2^63. Without that one value the range is
// symmetric, so that every number can be negated.
func counted(a api.F) api.F {
	return max(a, api.Least)
}

// Add returns the sum, saturated.
func Add(a, b api.F) api.F {
	a, b = counted(a), counted(b)
	switch {
	case b > 0 && a > api.Most-b:
		return api.Most
	case b < 0 && a < api.Least-b:
		return api.Least
	}
	return a + b
}

// Neg returns the negative of a.
func Neg(a api.F) api.F {
	return -counted(a)
}

// Sub returns the difference, saturated.
func Sub(a, b api.F) api.F {
	return Add(a, Neg(b))
}

// Abs returns a without its sign.
func Abs(a api.F) api.F {
	if a < 0 {
		return Neg(a)
	}
	return a
}

// Bring limits a to the range from low to high.
func Bring(a, low, high api.F) api.F {
	a, low, high = counted(a), counted(low), counted(high)
	switch {
	case a < low:
		return low
	case a > high:
		return high
	}
	return a
}

// Sum adds numbers with Add, from the first one on. The order matters: once
// the sum is saturated, the following numbers continue from there.
func Sum(l ...api.F) api.F {
	var sum api.F
	for _, a := range l {
		sum = Add(sum, a)
	}
	return sum
}

// Of returns the whole number n, saturated.
func Of(n int) api.F {
	const most = int(api.Most >> fraction)
	switch {
	case n > most:
		return api.Most
	case n < -most:
		return api.Least
	}
	return api.F(n) << fraction
}

// Part returns the quotient of two whole numbers.
func Part(a, b int) api.F {
	return Div(Of(a), Of(b))
}

// Mul returns the product, rounded toward 0, saturated.
func Mul(a, b api.F) api.F {
	high, low := bits.Mul64(size(a), size(b))
	product := uint64(api.Most)
	// Where high has more than 32 bits, the shift would drop some of them.
	if high>>(64-fraction) == 0 {
		product = high<<fraction | low>>fraction
	}
	return signed(product, (a < 0) != (b < 0))
}

// Div returns the quotient, rounded toward 0, saturated. Division by 0 returns
// Most, Least or 0, by the sign of a.
func Div(a, b api.F) api.F {
	if a == 0 {
		return 0
	}
	high, low := scaled(a)
	divisor := size(b)
	quotient := uint64(api.Most)
	// Div64 panics unless high is less than the divisor; where it isn't, the
	// quotient is at least 2^64, or the divisor is 0.
	if high < divisor {
		quotient, _ = bits.Div64(high, low, divisor)
	}
	return signed(quotient, (a < 0) != (b < 0))
}

// Sqrt returns the greatest number whose exact square isn't greater than a, or
// 0 if a is negative.
func Sqrt(a api.F) api.F {
	if a <= 0 {
		return 0
	}
	high, low := scaled(a)
	var root uint64
	// A root has at most 48 bits, as a times 2^32 is less than 2^96.
	for bit := uint64(1) << 47; bit > 0; bit >>= 1 {
		h, l := bits.Mul64(root|bit, root|bit)
		if h < high || h == high && l <= low {
			root |= bit
		}
	}
	return api.F(root)
}

// size returns the absolute value of a, in units of 2^-32.
func size(a api.F) uint64 {
	return uint64(Abs(a))
}

// scaled returns the absolute value of a, in units of 2^-64, as two words.
func scaled(a api.F) (high, low uint64) {
	n := size(a)
	return n >> (64 - fraction), n << fraction
}

// signed returns the number of that absolute value and sign, saturated.
func signed(size uint64, negative bool) api.F {
	a := api.F(min(size, uint64(api.Most)))
	if negative {
		return -a
	}
	return a
}
