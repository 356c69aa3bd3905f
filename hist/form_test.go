package hist_test

import (
	"bytes"
	"encoding/binary"
	"math/rand"
	"testing"

	"fathom/api"
	"fathom/hist"
)

// head tells what stands ahead of the buckets.
func head(bits int, nans uint64, buckets uint32, ends ...uint64) []byte {
	b := []byte{0x48, byte(bits)}
	b = binary.BigEndian.AppendUint64(b, nans)
	b = binary.BigEndian.AppendUint32(b, buckets)
	for _, v := range ends {
		b = binary.BigEndian.AppendUint64(b, v)
	}
	return b
}

func bucket(at uint32, n uint64) []byte {
	return binary.BigEndian.AppendUint64(binary.BigEndian.AppendUint32(nil, at), n)
}

func join(l ...[]byte) []byte { return bytes.Join(l, nil) }

func readable(t *testing.T, what string, b []byte) *hist.Hist {
	t.Helper()
	h, e := hist.Of(b)
	if h == nil || e != api.OK {
		t.Fatalf("Of, %s: %v, %d", what, h, e)
	}
	is(t, what+": Bytes of Of", string(h.Bytes()), string(b))
	return h
}

func refused(t *testing.T, what string, b []byte) {
	t.Helper()
	if h, e := hist.Of(b); h != nil || e != api.ErrHistForm {
		t.Errorf("Of, %s: %v, %d", what, h, e)
	}
}

func TestForm(t *testing.T) {
	is(t, "an empty one", string(empty(t, 12).Bytes()), string(head(12, 0, 0)))
	h := of(t, 12, f(3), f(-0.5), f(2), api.NaN64, f(4))
	want := join(head(12, 1, 3, f(-0.5), f(4)), bucket(0x401, 1), bucket(0xc00, 2), bucket(0xc01, 1))
	is(t, "Bytes", string(h.Bytes()), string(want))
	model{12, []uint64{f(3), f(-0.5), f(2), api.NaN64, f(4)}}.holds(t, "Of", readable(t, "an example", want))
}

func TestFormAgain(t *testing.T) {
	r := rand.New(rand.NewSource(199))
	for range 300 {
		m := model{api.MinBits + r.Intn(api.MaxBits-api.MinBits+1), anyValues(r, r.Intn(10))}
		h := readable(t, "Bytes", of(t, m.bits, m.l...).Bytes())
		m.holds(t, "Of", h)
		more := anyValues(r, r.Intn(4))
		for _, v := range more {
			is(t, "Add to what was read", h.Add(v, 1), api.OK)
		}
		m.l = append(m.l, more...)
		m.holds(t, "Adds to what was read", h)
	}
}

// TestFormRefused: a state with two buckets, and one thing that is amiss.
func TestFormRefused(t *testing.T) {
	a, b := f(2), f(4)
	two := func(h []byte) []byte { return join(h, bucket(0xc00, 2), bucket(0xc01, 1)) }
	good := two(head(12, 1, 2, a, b))
	readable(t, "two buckets", good)
	for i := range good {
		refused(t, "cut", good[:i])
	}
	refused(t, "one byte more", join(good, []byte{0}))
	refused(t, "another mark", join([]byte{0x49}, good[1:]))
	for what, x := range map[string][]byte{
		"bits 13":              two(head(13, 1, 2, a, b)),
		"bits 11":              two(head(11, 1, 2, a, b)),
		"one bucket too few":   two(head(12, 1, 1, a, b)),
		"one too many":         two(head(12, 1, 3, a, b)),
		"2^32 - 1 buckets":     two(head(12, 1, 1<<32-1, a, b)),
		"no buckets, but ends": head(12, 1, 0, a, b),
		"no ends":              two(head(12, 1, 2)),
		"the least a NaN":      two(head(12, 1, 2, api.NaN64, b)),
		"the greatest a NaN":   two(head(12, 1, 2, a, api.NaN64)),
		"both other signs":     two(head(12, 1, 2, minus(a), minus(b))),
		"the least elsewhere":  two(head(12, 1, 2, f(1), b)),
		"the least behind":     two(head(12, 1, 2, b, b)),
		"the greatest ahead":   two(head(12, 1, 2, a, a)),
		"the greatest behind":  two(head(12, 1, 2, a, f(8))),
		"ends crossed":         two(head(12, 1, 2, b, a)),
		"buckets crossed":      join(head(12, 1, 2, a, b), bucket(0xc01, 1), bucket(0xc00, 2)),
		"one bucket twice":     join(head(12, 1, 2, a, f(3)), bucket(0xc00, 2), bucket(0xc00, 1)),
		"twice, then the last": join(head(12, 1, 3, a, b), bucket(0xc00, 2), bucket(0xc00, 1), bucket(0xc01, 1)),
		"one falls back":       join(head(12, 1, 4, a, b), bucket(0xc00, 2), bucket(0xc01, 1), bucket(0xbff, 1), bucket(0xc01, 1)),
		"the first one empty":  join(head(12, 1, 2, a, b), bucket(0xc00, 0), bucket(0xc01, 1)),
		"the last one empty":   join(head(12, 1, 2, a, b), bucket(0xc00, 2), bucket(0xc01, 0)),
		"a bit too high":       join(head(12, 1, 2, a, b), bucket(0xc00, 2), bucket(0x1c01, 1)),
	} {
		refused(t, what, x)
	}
}

// TestFormNans: NaNs alone are a state; buckets with nothing but NaNs are none.
func TestFormNans(t *testing.T) {
	for bits := range 256 {
		b := head(bits, 7, 0)
		if bits < api.MinBits || bits > api.MaxBits {
			refused(t, "bits", b)
			continue
		}
		h := readable(t, "bits", b)
		is(t, "Bits", h.Bits(), bits)
		is(t, "Nans", h.Nans(), 7)
	}
	inf := uint64(api.Inf64)
	readable(t, "both infinities", join(head(24, 0, 2, minus(inf), inf), bucket(0x000fff, 1), bucket(0xfff000, 1)))
	readable(t, "both infinities by 12 bits", join(head(12, 0, 2, minus(inf), inf), bucket(0, 1), bucket(0xfff, 1)))
	for what, x := range map[string][]byte{
		"the least one":    join(head(12, 0, 2, minus(inf+1), inf), bucket(0, 1), bucket(0xfff, 1)),
		"the greatest one": join(head(12, 0, 2, minus(inf), inf+1), bucket(0, 1), bucket(0xfff, 1)),
		"above all":        join(head(24, 0, 2, f(0), inf), bucket(0x800000, 1), bucket(0xfff001, 1)),
		"one more above":   join(head(24, 0, 3, f(0), inf), bucket(0x800000, 1), bucket(0xfff000, 1), bucket(0xfff001, 1)),
		"below all":        join(head(24, 0, 2, minus(inf), f(0)), bucket(0x000ffe, 1), bucket(0x800000, 1)),
		"one more below":   join(head(24, 0, 3, minus(inf), f(0)), bucket(0x000ffe, 1), bucket(0x000fff, 1), bucket(0x800000, 1)),
		"alone above":      join(head(24, 0, 1, inf+1, inf+1), bucket(0xfff000, 1)),
		"alone below":      join(head(24, 0, 1, minus(inf+1), minus(inf+1)), bucket(0x000ffe, 1)),
	} {
		refused(t, what, x)
	}
}

// TestFormOneBucket: how the ends hang on one another and on the count.
func TestFormOneBucket(t *testing.T) {
	for _, c := range []struct {
		a, b, n uint64
		good    bool
	}{
		{f(2), f(2), 1, true}, {f(2), f(3), 1, false}, {f(3), f(2), 1, false}, {f(2), f(3), 2, true}, {f(3), f(2), 2, false},
		{f(3), f(3), 2, true}, {f(2), f(3), 3, true}, {f(2), f(2), 0, false},
	} {
		b := join(head(12, 9, 1, c.a, c.b), bucket(0xc00, c.n))
		if c.good {
			readable(t, "one bucket", b)
		} else {
			refused(t, "one bucket", b)
		}
	}
	readable(t, "both noughts", join(head(2, 0, 2, minus(0), 0), bucket(1, 1), bucket(2, 1)))
	refused(t, "both noughts crossed", join(head(2, 0, 2, 0, minus(0)), bucket(1, 1), bucket(2, 1)))
}

func TestFormFull(t *testing.T) {
	const most = api.MaxCount
	three := func(nans, x, y, z uint64) []byte {
		return join(head(12, nans, 3, f(1), f(4)), bucket(0xbff, x), bucket(0xc00, y), bucket(0xc01, z))
	}
	h := readable(t, "a full one", three(1, 1, most-3, 1))
	is(t, "Add to a full one", h.Add(f(1), 1), api.ErrHistFull)
	readable(t, "a full one of NaNs", head(12, most, 0))
	for what, b := range map[string][]byte{
		"NaNs":           head(12, most+1, 0),
		"all NaNs":       head(12, 1<<64-1, 0),
		"with NaNs":      three(2, 1, most-3, 1),
		"the first":      three(0, most+1, 1, 1),
		"the last":       three(0, 1, 1, most-1),
		"wrapped":        three(0, 1<<63, 1<<63, 1),
		"NaNs wrap":      three(1<<64-2, 1, 1, 1),
		"the last wraps": three(1, 1, 1, 1<<64-2),
	} {
		refused(t, what, b)
	}
}

// TestFormOfAny: whatever bytes are handed in: what is read is told again.
func TestFormOfAny(t *testing.T) {
	r := rand.New(rand.NewSource(200))
	for range 20000 {
		b := of(t, api.MinBits+r.Intn(4), anyValues(r, r.Intn(4))...).Bytes()
		for range 1 + r.Intn(2) {
			b[r.Intn(len(b))] ^= 1 << r.Intn(8)
		}
		h, e := hist.Of(b)
		switch {
		case e == api.OK:
			is(t, "Bytes of Of", string(h.Bytes()), string(b))
		case e != api.ErrHistForm || h != nil:
			t.Fatalf("Of(%x): %v, %d", b, h, e)
		}
	}
}

// TestFormMemory: what is told, and what was handed in, is the caller's own.
func TestFormMemory(t *testing.T) {
	m := model{7, []uint64{f(1), f(-3), api.NaN64}}
	h := of(t, m.bits, m.l...)
	b := h.Bytes()
	o := readable(t, "Bytes", b)
	clear(append(b, 1)[:cap(b)])
	clear(b[:cap(b)])
	m.holds(t, "behind a change of its bytes", h)
	m.holds(t, "behind a change of what it was read from", o)
	room := append(m.form(), 1, 2, 3)
	is(t, "a read with bytes behind the length", string(readable(t, "cut", room[:len(room)-3]).Bytes()), string(m.form()))
}
