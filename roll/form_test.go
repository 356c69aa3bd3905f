package roll_test

import (
	"bytes"
	"encoding/binary"
	"math/rand"
	"slices"
	"testing"

	"fathom/api"
	"fathom/roll"
)

// form lays windows and cells as the chapter says it.
func form(w api.Window, l []api.Cell) []byte {
	b := []byte{0x52}
	b = binary.BigEndian.AppendUint64(b, uint64(w.Step))
	b = binary.BigEndian.AppendUint64(b, uint64(w.Origin))
	b = binary.BigEndian.AppendUint32(b, uint32(len(l)))
	for _, c := range l {
		b = binary.BigEndian.AppendUint64(b, uint64(c.First))
		b = binary.BigEndian.AppendUint16(b, uint16(len(c.State)))
		b = append(b, c.State...)
	}
	return b
}

func noForm(t *testing.T, what string, b []byte) {
	t.Helper()
	w, l, e := roll.Of(b)
	if e != api.ErrRollForm || len(l) > 0 || w != (api.Window{}) {
		t.Errorf("%s: %v, %v, %d", what, w, l, e)
	}
}

func TestForm(t *testing.T) {
	w := win(10, -3)
	l := cells(t, w, []api.Point{at(-44, 1), at(0, 2), at(5, 3), at(1<<40, 4)})
	for _, c := range [][]api.Cell{nil, l[:1], l} {
		b, e := roll.Bytes(w, c)
		is(t, "Bytes", e, api.OK)
		is(t, "Bytes", string(b), string(form(w, c)))
		v, again, e := roll.Of(b)
		is(t, "Of", e, api.OK)
		is(t, "Of", v, w)
		same(t, "Of", again, c)
	}
	b := form(w, l)
	for i := range b {
		noForm(t, "a beginning", b[:i])
	}
	noForm(t, "a byte more", append(bytes.Clone(b), 0))
	noForm(t, "another mark", append([]byte{0x53}, b[1:]...))
	noForm(t, "a step of 0", form(win(0, 0), nil))
	noForm(t, "a step below 0", form(win(-10, 0), nil))
	noForm(t, "other windows", form(win(10, 0), l))
	for what, c := range bad(t) {
		noForm(t, what, form(win(10, 0), c))
	}
	many := make([]byte, 21)
	copy(many, form(win(10, 0), nil)[:17])
	for _, n := range []uint32{1, api.MaxCells + 1, 1<<32 - 1} {
		binary.BigEndian.PutUint32(many[17:], n)
		noForm(t, "a count without cells", many)
	}
}

func TestAnyByte(t *testing.T) {
	w := win(10, 0)
	b := form(w, cells(t, w, []api.Point{at(1, 5), at(12, 6)}))
	r := rand.New(rand.NewSource(208))
	for i := range b {
		c := bytes.Clone(b)
		c[i] ^= byte(1 + r.Intn(255))
		v, l, e := roll.Of(c)
		if e == api.OK {
			again, _ := roll.Bytes(v, l)
			is(t, "told again", string(again), string(c))
			continue
		}
		noForm(t, "changed", c)
	}
}

// TestMemory: what is handed in stays, and what is told is the caller's own.
func TestMemory(t *testing.T) {
	w := win(10, 0)
	l := cells(t, w, []api.Point{at(1, 5), at(12, 6), at(33, 7)})
	b, _ := roll.Bytes(w, l)
	for what, call := range map[string]func(l []api.Cell) []api.Cell{
		"Join ahead":  func(l []api.Cell) []api.Cell { return joined(t, w, l, nil) },
		"Join behind": func(l []api.Cell) []api.Cell { return joined(t, w, nil, l) },
		"Join":        func(l []api.Cell) []api.Cell { return joined(t, w, l, cells(t, w, []api.Point{at(38, 1), at(55, 1)})) },
		"Wider":       func(l []api.Cell) []api.Cell { return wider(t, w, w, l) },
		"Within":      func(l []api.Cell) []api.Cell { return inside(t, w, l, span(least, greatest)) },
	} {
		handed := slices.Grow(slices.Clone(l), 5)
		for i := range handed {
			handed[i].State = append(bytes.Clone(l[i].State), 9)[:len(l[i].State)]
		}
		got := call(handed)
		same(t, what+": handed in", handed, l)
		kept := slices.Clone(got)
		for i := range kept {
			kept[i].State = bytes.Clone(got[i].State)
		}
		for i := range handed {
			clear(handed[i].State)
		}
		same(t, what+": told", got, kept)
		for i := range got {
			clear(got[i].State[:cap(got[i].State)])
			for j := range got {
				if i != j && !bytes.Equal(got[j].State, kept[j].State) && j > i {
					t.Errorf("%s: two states share memory", what)
				}
			}
		}
	}
	v, again, e := roll.Of(b)
	is(t, "Of", e, api.OK)
	is(t, "Of", v, w)
	clear(b)
	same(t, "Of", again, l)
	c, _ := roll.Bytes(w, l)
	clear(l[0].State)
	_, again, e = roll.Of(c)
	is(t, "Bytes", e, api.OK)
	is(t, "Bytes", len(again), 3)
}
