package float

import (
	"math"

	"fathom/api"
)

// Un tells api's operations of one number.
func Un(op int, a uint64) uint64 {
	x := value(a)
	switch op {
	case api.UnNeg:
		return pattern[uint64](-x)
	case api.UnAbs:
		return pattern[uint64](math.Abs(x))
	case api.UnRoot:
		return Root(a)
	case api.UnEven, api.UnAway, api.UnZero, api.UnFloor, api.UnCeil:
		r, _ := whole(x, op-api.UnEven+api.RoundEven) // both are listed in one order
		return pattern[uint64](r)
	case api.UnThin:
		return pattern[uint64](value(Narrow(a)))
	case api.UnIsNaN:
		return truth(math.IsNaN(x))
	}
	return api.NaN64
}

// Bin tells api's operations of two numbers.
func Bin(op int, a, b uint64) uint64 {
	switch op {
	case api.BinAdd:
		return Add(a, b)
	case api.BinSub:
		return Sub(a, b)
	case api.BinMul:
		return Mul(a, b)
	case api.BinDiv:
		return Div(a, b)
	case api.BinMin:
		return pattern[uint64](min(value(a), value(b)))
	case api.BinMax:
		return pattern[uint64](max(value(a), value(b)))
	case api.BinLt, api.BinLe, api.BinEq, api.BinNe, api.BinGe, api.BinGt:
		return truth(holds(op, a, b))
	case api.BinAnd:
		return truth(isTrue(a) && isTrue(b))
	case api.BinOr:
		return truth(isTrue(a) || isTrue(b))
	}
	return api.NaN64
}

// holds tells whether two numbers stand to each other as op says.
func holds(op int, a, b uint64) bool {
	c, ok := Cmp(a, b)
	switch op {
	case api.BinLt:
		return ok && c < 0
	case api.BinLe:
		return ok && c <= 0
	case api.BinEq:
		return ok && c == 0
	case api.BinNe:
		return !(ok && c == 0)
	case api.BinGe:
		return ok && c >= 0
	}
	return ok && c > 0
}

// isTrue tells whether it is neither nought nor NaN.
func isTrue(b uint64) bool {
	x := value(b)
	return x < 0 || x > 0
}

// truth tells 1 or +0.
func truth(is bool) uint64 {
	if is {
		return pattern[uint64](1)
	}
	return 0
}
