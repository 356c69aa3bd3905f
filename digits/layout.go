package digits

import "fathom/api"

// layout is a width of floats; patterns of either width are held as 64 bits.
type layout struct {
	fraction int    // bits of the fraction
	least    int    // the power of 2 of the least number
	sign     uint64 // the sign's bit
	inf      uint64 // the pattern of +Inf: those of finite numbers, without their signs, are below it, those of NaNs above
	nan      uint64 // that of the one NaN
	payload  int    // digits of a NaN's fraction in base 16
}

func wide() layout {
	return layout{fraction: 52, least: -1074, sign: api.Neg64, inf: api.Inf64, nan: api.NaN64, payload: 13}
}

func narrow() layout {
	return layout{fraction: 23, least: -149, sign: api.Neg32, inf: api.Inf32, nan: api.NaN32, payload: 6}
}

// text tells a pattern's text; finite tells that of a finite number from its pattern without the sign.
func (l layout) text(b uint64, finite func(size uint64) string) string {
	size := b &^ l.sign
	if size != b {
		return "-" + l.unsigned(size, finite)
	}
	return l.unsigned(size, finite)
}

func (l layout) unsigned(size uint64, finite func(size uint64) string) string {
	switch {
	case size < l.inf:
		return finite(size)
	case size == l.inf:
		return "inf"
	case size == l.nan:
		return "nan"
	}
	return "nan:" + digits16(size-l.inf, l.payload)
}

// split tells a finite number as m steps of 2^e, and whether the step below it is but half as wide as the one above: so it is at powers of 2, but at the least normal one.
func (l layout) split(size uint64) (m uint64, e int, halved bool) {
	field := int(size >> l.fraction)
	if field == 0 {
		return size, l.least, false
	}
	first := uint64(1) << l.fraction
	m = size&(first-1) | first
	return m, l.least + field - 1, m == first && field > 1
}
