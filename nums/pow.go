package nums

import (
	"math"
	"math/bits"
)

// maxPower is the greatest whole power that is worked out by products.
const maxPower = 1024

// Pow: P2.5.
func Pow(a, b float64) float64 {
	switch {
	case math.IsNaN(b):
		return math.NaN()
	case b == 0:
		return 1
	case math.IsNaN(a):
		return math.NaN()
	case math.IsInf(b, 0):
		return powEndless(a, b)
	case b == 0.5:
		return root(a)
	case b != math.Trunc(b):
		return math.NaN()
	}
	return powWhole(a, b)
}

// powEndless is where the powers of a go to, as they go to b, which is above or below 0 without end.
func powEndless(a, b float64) float64 {
	size := math.Abs(a)
	if size == 1 {
		return math.NaN()
	}
	if (size > 1) == (b > 0) {
		return math.Inf(1)
	}
	return 0
}

// root is the square root, of which -infinity and -0 have no sign.
func root(a float64) float64 {
	switch {
	case math.IsInf(a, -1):
		return math.Inf(1)
	case a == 0:
		return 0
	}
	return math.Sqrt(a)
}

// powWhole is the power of a to a whole number b that is not 0.
func powWhole(a, b float64) float64 {
	n := math.Abs(b)
	if n > maxPower {
		return powFar(a, b)
	}
	p := product(a, uint(n))
	if b < 0 {
		return 1 / p
	}
	return p
}

// powFar is the power of a to a whole number of which only the sign and whether it is even count.
func powFar(a, b float64) float64 {
	size := 1.0
	if math.Abs(a) != 1 {
		size = powEndless(a, b)
	}
	if math.Mod(b, 2) == 0 {
		return size
	}
	return math.Copysign(size, a)
}

// product is a n times over, in the order of n's bits, since each product is rounded.
func product(a float64, n uint) float64 {
	p := 1.0
	for bit := bits.Len(n) - 1; bit >= 0; bit-- {
		p = float64(p * p)
		if n>>bit&1 == 1 {
			p = float64(p * a)
		}
	}
	return p
}
