package float

import (
	"math"

	"fathom/api"
)

// ToInt rounds to a whole number.
func ToInt(b uint64, mode int) (int64, api.Errno) {
	x, ok := whole(value(b), mode)
	switch {
	case !ok:
		return 0, api.ErrFloatMode
	case x >= -0x1p63 && x < 0x1p63: // false of a NaN, too
		return int64(x), api.OK
	}
	return 0, api.ErrFloatRange
}

// Round rounds to a whole number, and tells a float.
func Round(b uint64, mode int) (uint64, api.Errno) {
	x, ok := whole(value(b), mode)
	if !ok {
		return 0, api.ErrFloatMode
	}
	return pattern[uint64](x), api.OK
}

// whole rounds to a whole number; false: there is no such mode.
func whole(x float64, mode int) (float64, bool) {
	switch mode {
	case api.RoundEven:
		return math.RoundToEven(x), true
	case api.RoundAway:
		return math.Round(x), true
	case api.RoundZero:
		return math.Trunc(x), true
	case api.RoundFloor:
		return math.Floor(x), true
	case api.RoundCeil:
		return math.Ceil(x), true
	}
	return 0, false
}
