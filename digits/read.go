package digits

import (
	"fathom/api"
	"fathom/float"
)

// place is where in a number's text a reader stands.
type place int

const (
	nowhere place = iota // no number's text goes on so
	atStart
	behindSign
	inWord // inf or nan, some of its letters still to come
	behindInf
	behindNaN
	inPayload
	behindPayload
	behindNought // a 0 that is the first digit: an x may follow
	behindX
	inWhole
	behindPoint
	inRest     // digits behind the point
	behindMark // the e, or p, ahead of a power
	behindMarkSign
	inPower
)

// reader goes through a number's text, rune by rune.
type reader struct {
	layout  layout
	at      place
	letters string // of a word, that are still to come
	end     place  // behind them
	neg     bool
	payload uint64
	count   int // digits of the payload so far
	number  numeral
}

// parse tells the float of a text; nearest tells that of p / q * 2^e.
func parse[T float.Word](s string, l layout, nearest func(neg bool, p, q api.Nat, e int) (T, api.Errno)) (T, api.Fault) {
	r := reader{layout: l, at: atStart, number: numeral{base: 10}}
	if fault := r.read(s); fault.Code != api.OK {
		return 0, fault
	}
	if b, ok := r.pattern(); ok {
		return T(b), api.Fault{}
	}
	p, q, e := r.number.ratio()
	b, _ := nearest(r.neg, p, q, e)
	return b, api.Fault{}
}

// read takes the whole text, or tells where it is no number's. At every place but nowhere some number's text goes on: so what was taken is the longest beginning of one.
func (r *reader) read(s string) api.Fault {
	if len(s) > api.MaxText {
		return api.Fault{Code: api.ErrDigitsLong}
	}
	for i, c := range s {
		r.at = r.next(c)
		if r.at == nowhere {
			return api.Fault{Code: api.ErrDigitsText, At: i}
		}
	}
	if !r.mayEnd() {
		return api.Fault{Code: api.ErrDigitsText, At: len(s)}
	}
	return api.Fault{}
}

// next tells the place behind a rune.
func (r *reader) next(c rune) place {
	switch r.at {
	case atStart, behindSign:
		return r.begin(c)
	case inWord:
		return r.spell(c)
	case behindNaN, inPayload:
		return r.takePayload(c)
	case behindMark, behindMarkSign, inPower:
		return r.takePower(c)
	}
	return r.takeNumber(c)
}

func (r *reader) begin(c rune) place {
	switch {
	case c == '-' && r.at == atStart:
		r.neg = true
		return behindSign
	case c == 'i':
		r.letters, r.end = "nf", behindInf
		return inWord
	case c == 'n':
		r.letters, r.end = "an", behindNaN
		return inWord
	case c == '0':
		return behindNought
	}
	return r.take(c, inWhole)
}

// spell takes the next letter of a word.
func (r *reader) spell(c rune) place {
	if c != rune(r.letters[0]) {
		return nowhere
	}
	r.letters = r.letters[1:]
	if r.letters == "" {
		return r.end
	}
	return inWord
}

// takePayload takes a NaN's fraction digit by digit: it must not become greater than a fraction, nor, with its last digit, be 0.
func (r *reader) takePayload(c rune) place {
	if r.at == behindNaN {
		return only(c == ':', inPayload)
	}
	d, ok := digitOf(c, 16)
	r.payload = r.payload<<4 | uint64(d)
	r.count++
	left := r.layout.payload - r.count
	switch {
	case !ok || r.payload<<(4*left)>>r.layout.fraction != 0:
		return nowhere
	case left > 0:
		return inPayload
	}
	return only(r.payload != 0, behindPayload)
}

func (r *reader) takeNumber(c rune) place {
	switch r.at {
	case behindNought:
		if c == 'x' {
			r.number.base = 16
			return behindX
		}
		return r.takeWhole(c)
	case behindX:
		return r.take(c, inWhole)
	case inWhole:
		return r.takeWhole(c)
	case behindPoint:
		return r.take(c, inRest)
	case inRest:
		if r.isMark(c) {
			return behindMark
		}
		return r.take(c, inRest)
	}
	return nowhere
}

// takeWhole goes on behind a digit that stands ahead of the point.
func (r *reader) takeWhole(c rune) place {
	switch {
	case c == '.':
		return behindPoint
	case r.isMark(c):
		return behindMark
	}
	return r.take(c, inWhole)
}

// take takes a digit of the number; then the place is there.
func (r *reader) take(c rune, there place) place {
	d, ok := digitOf(c, r.number.base)
	if !ok {
		return nowhere
	}
	r.number.lay(d, there == inRest)
	return there
}

func (r *reader) takePower(c rune) place {
	if r.at == behindMark && (c == '-' || c == '+' && r.number.base == 10) {
		r.number.powerNeg = c == '-'
		return behindMarkSign
	}
	d, ok := digitOf(c, 10)
	if !ok {
		return nowhere
	}
	r.number.layPower(d)
	return inPower
}

func (r *reader) isMark(c rune) bool {
	if r.number.base == 16 {
		return c == 'p'
	}
	return c == 'e' || c == 'E'
}

// mayEnd tells whether what was taken is a number's text: in base 16 a power must stand there.
func (r *reader) mayEnd() bool {
	switch r.at {
	case behindInf, behindNaN, behindPayload, behindNought, inPower:
		return true
	case inWhole, inRest:
		return r.number.base == 10
	}
	return false
}

// pattern tells what is no finite number; false: it is one.
func (r *reader) pattern() (uint64, bool) {
	sign := uint64(0)
	if r.neg {
		sign = r.layout.sign
	}
	switch r.at {
	case behindInf:
		return sign | r.layout.inf, true
	case behindNaN:
		return sign | r.layout.nan, true
	case behindPayload:
		return sign | r.layout.inf | r.payload, true
	}
	return 0, false
}

// only tells a place if it may be gone to.
func only(may bool, there place) place {
	if may {
		return there
	}
	return nowhere
}

// digitOf tells a digit's value; false: it is none in that base.
func digitOf(c rune, base int) (byte, bool) {
	switch {
	case c >= '0' && c <= '9':
		return byte(c - '0'), true
	case base == 16 && c >= 'a' && c <= 'f':
		return byte(c-'a') + 10, true
	}
	return 0, false
}
