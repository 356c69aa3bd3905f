package block_test

import (
	"bytes"
	"math"
	"math/rand"
	"slices"
	"testing"

	"fathom/api"
	"fathom/block"
	"fathom/code"
	"fathom/times"
)

// P9.2: fewer than 51 bytes are too few, whatever they are.
func TestHeadWantsItsBytes(t *testing.T) {
	b := encodes(t, api.KindWide, filled(20, api.NaN64))
	for size := range 51 {
		headRefused(t, "a beginning", b[:size], api.ErrBlockShort)
		headRefused(t, "noughts", make([]byte, size), api.ErrBlockShort)
	}
	headRefused(t, "none", nil, api.ErrBlockShort)
	headRefused(t, "51 noughts", make([]byte, 51), api.ErrBlockForm)
}

// P9.2: what is behind the head is not looked at.
func TestHeadLooksNoFurther(t *testing.T) {
	for _, kind := range kinds() {
		for _, l := range few(kind) {
			b := encodes(t, kind, l)
			want, _ := block.HeadOf(kind, l)
			for _, c := range [][]byte{b[:51], b[:len(b)-1], append(slices.Clone(b), 7, 7, 7), append(slices.Clone(b[:51]), 0xff)} {
				if h, e := block.Head(c); h != want || e != api.OK {
					t.Fatalf("%x: %v, %d; want %v", c, h, e, want)
				}
			}
		}
	}
}

// P9.2: first the mark, then the Sum, then what stands there.
func TestHeadErrorsInOrder(t *testing.T) {
	f := frameOf(api.KindWide, filled(3, 5))
	broken := func(f frame) []byte {
		b := f.bytes()
		b[50] ^= 1
		return b
	}
	for _, mark := range []byte{0, 1, 0xb4, 0xb6, 0x35, 0x5b, 0xff} {
		g := f
		g.mark = mark
		headRefused(t, "another mark", g.bytes(), api.ErrBlockForm)
		headRefused(t, "another mark and another Sum", broken(g), api.ErrBlockForm)
		headRefused(t, "another mark, too short", g.bytes()[:50], api.ErrBlockShort)
	}
	headRefused(t, "another Sum", broken(f), api.ErrBlockSum)
	g := f
	g.kind, g.coding, g.count, g.nans = 0, 0, 0, 9
	headRefused(t, "another Sum and no kind", broken(g), api.ErrBlockSum)
	headRefused(t, "no kind", g.bytes(), api.ErrBlockForm)
}

// P9.2: heads with the right Sum, at the edges of what each number may be.
func TestHeadNumbers(t *testing.T) {
	base := frame{mark: 0xb5, kind: 1, coding: 2, count: 7, nans: 3, first: -5, last: 90, least: 4, greatest: 8, timesSize: 11, valuesSize: 13}
	for _, c := range []struct {
		name   string
		change func(f *frame)
		ok     bool
	}{
		{"as it is", func(f *frame) {}, true},
		{"kind 0", func(f *frame) { f.kind = 0 }, false},
		{"kind 2", func(f *frame) { f.kind = 2 }, true},
		{"kind 3", func(f *frame) { f.kind = 3 }, false},
		{"kind 255", func(f *frame) { f.kind = 255 }, false},
		{"kind 129", func(f *frame) { f.kind = 129 }, false},
		{"coding 0", func(f *frame) { f.coding = 0 }, false},
		{"coding 1", func(f *frame) { f.coding = 1 }, true},
		{"coding 6", func(f *frame) { f.coding = 6 }, true},
		{"coding 7", func(f *frame) { f.coding = 7 }, false},
		{"coding 255", func(f *frame) { f.coding = 255 }, false},
		{"no points", func(f *frame) { f.count, f.nans = 0, 0 }, false},
		{"no points at one time", func(f *frame) { f.count, f.nans, f.last = 0, 0, f.first }, false},
		{"two", func(f *frame) { f.count, f.nans = 2, 2 }, true},
		{"as many as may be", func(f *frame) { f.count = api.MaxBlock }, true},
		{"too many", func(f *frame) { f.count = api.MaxBlock + 1 }, false},
		{"far too many", func(f *frame) { f.count = 65535 }, false},
		{"no NaNs", func(f *frame) { f.nans = 0 }, true},
		{"all are NaNs", func(f *frame) { f.nans = 7 }, true},
		{"as many NaNs as may be", func(f *frame) { f.count, f.nans = api.MaxBlock, api.MaxBlock }, true},
		{"more NaNs", func(f *frame) { f.nans = 8 }, false},
		{"far more NaNs", func(f *frame) { f.nans = 65535 }, false},
		{"one point", func(f *frame) { f.count, f.nans, f.last = 1, 1, f.first }, true},
		{"one point, two NaNs", func(f *frame) { f.count, f.nans, f.last = 1, 2, f.first }, false},
		{"one point, a later time", func(f *frame) { f.count, f.nans, f.last = 1, 0, f.first+1 }, false},
		{"one point, an earlier time", func(f *frame) { f.count, f.nans, f.last = 1, 0, f.first-1 }, false},
		{"the same time", func(f *frame) { f.last = f.first }, false},
		{"the next time", func(f *frame) { f.last = f.first + 1 }, true},
		{"an earlier time", func(f *frame) { f.last = f.first - 1 }, false},
		{"the ends of all times", func(f *frame) { f.first, f.last = math.MinInt64, math.MaxInt64 }, true},
		{"these the other way round", func(f *frame) { f.first, f.last = math.MaxInt64, math.MinInt64 }, false},
		{"the last below 0, the first above", func(f *frame) { f.first, f.last = 1, -1 }, false},
		{"the least above the greatest", func(f *frame) { f.least, f.greatest = 8, 4 }, true},
		{"a NaN for the least", func(f *frame) { f.least = 0xfff0000000000001 }, true},
		{"no bytes", func(f *frame) { f.timesSize, f.valuesSize = 0, 0 }, true},
		{"as many bytes as can be said", func(f *frame) { f.timesSize, f.valuesSize = math.MaxUint32, math.MaxUint32 }, true},
	} {
		f := base
		c.change(&f)
		b := f.headBytes()
		if !c.ok {
			headRefused(t, c.name, b, api.ErrBlockForm)
			continue
		}
		if h, e := block.Head(b); h != f.says() || e != api.OK {
			t.Errorf("%s: %v, %d; want %v", c.name, h, e, f.says())
		}
		refused(t, c.name, b, api.ErrBlockShort)
	}
}

// P9.3, P9.4: each beginning is too short, and what has anything behind it is refused, each ahead of the Sum.
func TestDecodeWantsAllBytes(t *testing.T) {
	for _, kind := range kinds() {
		for _, l := range append(few(kind), filled(300, 0x3ff8000000000000)) {
			b := encodes(t, kind, l)
			for size := range b {
				refused(t, "a beginning", b[:size], api.ErrBlockShort)
			}
			for _, more := range [][]byte{{0}, {0xff}, b[len(b)-4:], b, make([]byte, 1000)} {
				c := append(slices.Clone(b), more...)
				refused(t, "more behind", c, api.ErrBlockLeft)
				c[len(b)-1] ^= 1
				refused(t, "more behind, and another Sum", c, api.ErrBlockLeft)
			}
			c := slices.Clone(b)
			c[len(b)-2] ^= 1
			refused(t, "too few, and another Sum", c[:len(b)-1], api.ErrBlockShort)
		}
	}
}

// P9.3: head's errors go ahead of those of what stands behind.
func TestDecodeErrorsInOrder(t *testing.T) {
	f := frameOf(api.KindWide, filled(9, 5))
	b := f.bytes()
	c := slices.Clone(b)
	c[49] ^= 4
	c[len(c)-1] ^= 4
	refused(t, "both Sums", c, api.ErrBlockSum)
	refused(t, "the head's Sum, too short", c[:60], api.ErrBlockSum)
	refused(t, "the head's Sum, something left", append(c, 0), api.ErrBlockSum)
	g := f
	g.count = 0
	refused(t, "no points, too short", g.bytes()[:60], api.ErrBlockForm)
	refused(t, "no points, something left", append(g.bytes(), 0), api.ErrBlockForm)
	g = f
	g.nans = 1
	c = g.bytes()
	refused(t, "other NaNs", c, api.ErrBlockForm)
	c[len(c)-1] ^= 1
	refused(t, "other NaNs, another Sum", c, api.ErrBlockSum)
}

// P9.4: one byte that is another one, whichever.
func TestEachByteChanged(t *testing.T) {
	for _, kind := range kinds() {
		for _, l := range few(kind) {
			b := encodes(t, kind, l)
			for at := range b {
				for by := 1; by < 256; by++ {
					b[at] ^= byte(by)
					if k, m, e := block.Decode(b); e == api.OK || k != 0 || len(m) != 0 {
						t.Fatalf("%x, changed at %d by %x: %d, %x, %d", b, at, by, k, m, e)
					}
					b[at] ^= byte(by)
				}
			}
		}
	}
}

// P9.4: changed bytes are refused with the Sum's error, wherever they change no length and no mark.
func TestWhichSum(t *testing.T) {
	b := encodes(t, api.KindWide, filled(40, 0x7ff8000000000001))
	for at := range b {
		c := slices.Clone(b)
		c[at] ^= 0x10
		want := api.ErrBlockSum
		if at == 0 {
			want = api.ErrBlockForm
		}
		refused(t, "changed", c, want)
	}
}

// changes are ways in which a frame that has the right Sums may yet be wrong.
func changes() map[string]func(f *frame) {
	l := map[string]func(f *frame){
		"one more":             func(f *frame) { f.count++ },
		"one less":             func(f *frame) { f.count-- },
		"a NaN more":           func(f *frame) { f.nans++ },
		"a NaN less":           func(f *frame) { f.nans-- },
		"an earlier first":     func(f *frame) { f.first-- },
		"a later first":        func(f *frame) { f.first++ },
		"an earlier last":      func(f *frame) { f.last-- },
		"a later last":         func(f *frame) { f.last++ },
		"a lesser least":       func(f *frame) { f.least-- },
		"a greater least":      func(f *frame) { f.least++ },
		"a lesser greatest":    func(f *frame) { f.greatest-- },
		"a greater greatest":   func(f *frame) { f.greatest++ },
		"another sign":         func(f *frame) { f.least ^= api.Neg64 },
		"both at once":         func(f *frame) { f.least, f.greatest = f.greatest, f.least },
		"a payload":            func(f *frame) { f.least, f.greatest = f.least|1, f.greatest|1 },
		"the other kind":       func(f *frame) { f.kind ^= 3 },
		"times a byte longer":  func(f *frame) { f.timesSize, f.valuesSize = f.timesSize+1, f.valuesSize-1 },
		"times a byte shorter": func(f *frame) { f.timesSize, f.valuesSize = f.timesSize-1, f.valuesSize+1 },
		"all bytes are times":  func(f *frame) { f.timesSize, f.valuesSize = f.timesSize+f.valuesSize, 0 },
		"all bytes are values": func(f *frame) { f.timesSize, f.valuesSize = 0, f.timesSize+f.valuesSize },
		"a nought behind":      func(f *frame) { *f = f.with(f.times, append(slices.Clone(f.values), 0)) },
		"a nought between":     func(f *frame) { *f = f.with(append(slices.Clone(f.times), 0), f.values) },
		"no values":            func(f *frame) { *f = f.with(f.times, nil) },
		"no times":             func(f *frame) { *f = f.with(nil, f.values) },
		"the other way round":  func(f *frame) { *f = f.with(f.values, f.times) },
	}
	for coding := byte(0); coding < 8; coding++ {
		l["coding "+string('0'+rune(coding))] = func(f *frame) {
			f.coding = coding
		}
	}
	return l
}

// P9.3: with right Sums, what Encode tells of no points is refused all the same.
func TestDecodeTakesOneForm(t *testing.T) {
	for _, kind := range kinds() {
		for _, l := range append(few(kind), samples(kind)[:200]...) {
			right := frameOf(kind, l)
			for name, change := range changes() {
				f := right
				change(&f)
				if bytes.Equal(f.bytes(), right.bytes()) {
					continue
				}
				// Points of few digits have the same bytes as wide ones and as narrow ones.
				if e := judged(t, name, f.bytes()); e == api.OK && name != "the other kind" {
					t.Errorf("%s: taken: %x", name, f.bytes())
				}
			}
		}
	}
	f := frameOf(api.KindWide, []api.Point{{T: 10, V: 6}, {T: 20, V: 12}, {T: 35, V: 8}})
	for name, change := range changes() {
		g := f
		change(&g)
		if !bytes.Equal(g.bytes(), f.bytes()) {
			refused(t, name, g.bytes(), api.ErrBlockForm)
		}
	}
}

// P9.3: values by a coding that has not the fewest bytes, or has as few but is not the first, are refused.
func TestDecodeWantsTheBestCoding(t *testing.T) {
	ties := 0
	for _, kind := range kinds() {
		for _, l := range samples(kind) {
			right := frameOf(kind, l)
			for coding := range 7 {
				values, e := packedBy(kind, coding, l)
				if e != api.OK || byte(coding) == right.coding {
					continue
				}
				if len(values) == len(right.values) {
					ties++
				}
				f := right.with(right.times, values)
				f.coding = byte(coding)
				refused(t, "another coding", f.bytes(), api.ErrBlockForm)
			}
		}
	}
	if ties < 100 {
		t.Errorf("only %d other codings had as few bytes", ties)
	}
}

func packedBy(kind, coding int, l []api.Point) ([]byte, api.Errno) {
	wide, narrow := []uint64{}, []uint32{}
	for _, p := range l {
		wide, narrow = append(wide, p.V), append(narrow, thin(p.V))
	}
	if kind == api.KindNarrow {
		return code.Pack(coding, narrow)
	}
	return code.Pack(coding, wide)
}

// P9.3: the same bytes of times and values may be those of other counts: the head decides, and all of it must fit.
func TestDecodeOfOtherCounts(t *testing.T) {
	l := []api.Point{{T: 10, V: 7}, {T: 20, V: 7}}
	f := frameOf(api.KindWide, l)
	taken := 0
	for n := uint16(1); n < 12; n++ {
		for last := int64(10); last <= 130; last += 10 {
			g := f
			g.count, g.last = n, last
			if judged(t, "another count", g.bytes()) == api.OK {
				taken++
			}
		}
	}
	if taken < 1 {
		t.Error("none was taken")
	}
}

// P9.3: a narrow block's bytes that are a signalling NaN's are no block's.
func TestDecodeRefusesSignallingNarrow(t *testing.T) {
	for _, v := range []uint32{0x7f800001, 0x7fa00000, 0x7fbfffff, 0xff800001, 0xffbfffff} {
		for _, values := range [][]uint32{{v}, {0, v}, {v, 0}, {v, v, v}, {v | 0x400000, v}} {
			rising := []int64{}
			f := frame{mark: 0xb5, kind: api.KindNarrow, count: uint16(len(values)), last: int64(len(values) - 1), least: api.NaN64, greatest: api.NaN64}
			for i, x := range values {
				rising = append(rising, int64(i))
				if x == 0 {
					f.least, f.greatest = 0, 0
				} else {
					f.nans++
				}
			}
			laid, _ := times.Pack(rising)
			coding, best := leastOf(values)
			f = f.with(laid, best)
			f.coding = byte(coding)
			if _, e := block.Head(f.bytes()); e != api.OK {
				t.Errorf("Head: %d", e)
			}
			refused(t, "a signalling NaN", f.bytes(), api.ErrBlockForm)
			for i, x := range values {
				values[i] = x | x>>1&0x400000
			}
			_, best = leastOf(values)
			quiet := f.with(laid, best)
			judged(t, "a quiet one", quiet.bytes())
		}
	}
}

// P9.3: times' bytes that are none, with all else right.
func TestDecodeRefusesTimes(t *testing.T) {
	f := frameOf(api.KindWide, []api.Point{{T: 5, V: 1}, {T: 6, V: 2}})
	five := []byte{0, 0, 0, 0, 0, 0, 0, 5}
	for _, bend := range [][]byte{{0}, {0x80, 0x01}, {0x80, 0x40}, {0x80, 0}, {0x80, 0x80, 0}, {}, {0xff}} {
		judged(t, "a bend", f.with(append(slices.Clone(five), bend...), f.values).bytes())
	}
	refused(t, "a difference of 0", f.with(append(slices.Clone(five), 0), f.values).bytes(), api.ErrBlockForm)
	refused(t, "a spare bit", f.with(append(slices.Clone(five), 0x80, 0x81), f.values).bytes(), api.ErrBlockForm)
}

// P9.3, P9.5: whatever stands in frames with right Sums, and whatever bytes there are: what the model says.
func TestAnyFrames(t *testing.T) {
	rnd := rand.New(rand.NewSource(93))
	taken := 0
	for range 60000 {
		kind := 1 + rnd.Intn(2)
		f := frameOf(kind, anyPoints(rnd, kind, 1+rnd.Intn(5)))
		times, values := slices.Clone(f.times), slices.Clone(f.values)
		for range rnd.Intn(3) {
			times[rnd.Intn(len(times))] ^= 1 << rnd.Intn(8)
		}
		for range rnd.Intn(3) {
			values[rnd.Intn(len(values))] ^= 1 << rnd.Intn(8)
		}
		f = f.with(times, values)
		f = mended(kind, f)
		if judged(t, "any frame", f.bytes()) == api.OK {
			taken++
		}
	}
	if taken < 10000 {
		t.Errorf("only %d were taken", taken)
	}
}

// mended tells the frame with what its times and values say in its head, if they say anything.
func mended(kind int, f frame) frame {
	rising, e := times.Unpack(f.times, int(f.count))
	values, g := wantedValues(kind, int(f.coding), f.values, int(f.count))
	if e != api.OK || g != api.OK {
		return f
	}
	other := frameOf(kind, pointsOf(rising, values))
	f.nans, f.first, f.last, f.least, f.greatest = other.nans, other.first, other.last, other.least, other.greatest
	return f
}

// P9.5: any bytes at all.
func TestAnyBytes(t *testing.T) {
	rnd := rand.New(rand.NewSource(94))
	for range 20000 {
		b := make([]byte, rnd.Intn(120))
		rnd.Read(b)
		if len(b) > 0 && rnd.Intn(4) > 0 {
			b[0] = 0xb5
		}
		judged(t, "any bytes", b)
	}
	for range 20000 {
		f := frame{mark: 0xb5, kind: byte(rnd.Intn(4)), coding: byte(rnd.Intn(8)), count: uint16(rnd.Intn(5)), nans: uint16(rnd.Intn(3)), first: int64(rnd.Intn(3)), last: int64(rnd.Intn(4))}
		times, values := make([]byte, rnd.Intn(12)), make([]byte, rnd.Intn(20))
		rnd.Read(times)
		rnd.Read(values)
		judged(t, "any frame", f.with(times, values).bytes())
		f.timesSize, f.valuesSize = rnd.Uint32()>>rnd.Intn(32), rnd.Uint32()>>rnd.Intn(32)
		judged(t, "any sizes", f.bytes())
	}
}

// P9.3, P9.5: more bytes of times or values than any points have end in an error.
func TestDecodeOfLongParts(t *testing.T) {
	f := frameOf(api.KindWide, filled(api.MaxBlock, 3))
	long := make([]byte, 1<<20)
	for coding := byte(1); coding <= 6; coding++ {
		f.coding = coding
		refused(t, "long times", f.with(long, f.values).bytes(), api.ErrBlockForm)
		refused(t, "long values", f.with(f.times, long).bytes(), api.ErrBlockForm)
		refused(t, "long values", f.with(f.times, bytes.Repeat([]byte{0xff}, 1<<20)).bytes(), api.ErrBlockForm)
	}
}
