package float

import "math"

// Numbers of both widths are reckoned as float64s. Of binary32s that rounds twice, and yet as if once: a sum, a difference, a product, a quotient or a root of numbers of 24 bits, rounded to 53 bits (at least 2 * 24 + 2), lies midway between two binary32s only if the exact one does.

// Add tells a + b.
func Add[T Word](a, b T) T { return pattern[T](value(a) + value(b)) }

// Sub tells a - b.
func Sub[T Word](a, b T) T { return pattern[T](value(a) - value(b)) }

// Mul tells a * b; the conversion keeps it from being fused with what its caller does next.
func Mul[T Word](a, b T) T { return pattern[T](float64(value(a) * value(b))) }

// Div tells a / b. By nought nothing is divided: whether that panics the language leaves open.
func Div[T Word](a, b T) T {
	x, y := value(a), value(b)
	if y == 0 {
		return pattern[T](byNought(x, math.Signbit(y)))
	}
	return pattern[T](x / y)
}

// byNought tells what P3.9 says of x divided by nought.
func byNought(x float64, neg bool) float64 {
	switch {
	case math.IsNaN(x) || x == 0:
		return math.NaN()
	case math.Signbit(x) != neg:
		return math.Inf(-1)
	}
	return math.Inf(1)
}

// Root tells the square root.
func Root[T Word](a T) T { return pattern[T](math.Sqrt(value(a))) }

// Fma tells a * b + c, rounded once.
func Fma(a, b, c uint64) uint64 { return pattern[uint64](math.FMA(value(a), value(b), value(c))) }
