package roll

import (
	"bytes"

	"fathom/agg"
	"fathom/api"
)

// stateIn tells the state of a cell that may be one of windows w.
func stateIn(w api.Window, c api.Cell) (*agg.State, bool) {
	in := within(w, c.First)
	if in.From != c.First || len(c.State) > api.MaxState {
		return nil, false
	}
	s, e := agg.StateOf(c.State)
	if e != api.OK {
		return nil, false
	}
	times, some := s.Span()
	return s, some && in.From <= times.From && times.Last <= in.Last
}

// mayBe tells whether cells may be, of windows w. Their states are not kept: those of many cells take far more room than their bytes.
func mayBe(w api.Window, l []api.Cell) bool {
	if len(l) > api.MaxCells {
		return false
	}
	for i, c := range l {
		if i > 0 && c.First <= l[i-1].First {
			return false
		}
		if _, good := stateIn(w, c); !good {
			return false
		}
	}
	return true
}

// count tells how many windows have points of l.
func count(w api.Window, l []api.Point) int {
	n := 0
	step := walk(w)
	for _, p := range l {
		if _, fresh := step(p.T); fresh {
			n++
		}
	}
	return n
}

func rise(l []api.Point) bool {
	for i := range l {
		if i > 0 && l[i].T <= l[i-1].T {
			return false
		}
	}
	return true
}

// pile gathers states to cells: those of one window that come one behind the other are put together.
type pile struct {
	step  func(t int64) (int64, bool)
	cells []api.Cell
	open  *agg.State
	name  int64
}

// at tells the state of the window that a time is in. A window that is left is laid as a cell.
func (p *pile) at(t int64) *agg.State {
	name, fresh := p.step(t)
	if fresh {
		p.lay()
		p.open, p.name = &agg.State{}, name
	}
	return p.open
}

func (p *pile) lay() {
	if p.open != nil {
		p.cells = append(p.cells, api.Cell{First: p.name, State: p.open.Bytes()})
	}
	p.open = nil
}

func cellsOf(w api.Window, l []api.Point) []api.Cell {
	p := pile{step: walk(w)}
	for _, x := range l {
		// It takes them all: their times rise, and there are far fewer than MaxCount.
		p.at(x.T).Add(x)
	}
	p.lay()
	return p.cells
}

// wider tells the cells of windows that are made of whole ones of those of l.
func wider(wide api.Window, l []api.Cell) ([]api.Cell, api.Errno) {
	p := pile{step: walk(wide)}
	for _, c := range l {
		s, e := agg.StateOf(c.State)
		if e != api.OK {
			return nil, e
		}
		if e := p.at(c.First).Join(s); e != api.OK {
			return nil, e
		}
	}
	p.lay()
	return p.cells, api.OK
}

// inside tells the cells whose windows are whole in a span.
func inside(w api.Window, l []api.Cell, s api.Span) []api.Cell {
	var kept []api.Cell
cells:
	for _, c := range l {
		for _, end := range []int64{c.First, last(w, c.First)} {
			if end < s.From || end > s.Last {
				continue cells
			}
		}
		kept = append(kept, c)
	}
	return copied(kept)
}

// copied tells cells in new memory.
func copied(l []api.Cell) []api.Cell {
	var fresh []api.Cell
	for _, c := range l {
		fresh = append(fresh, api.Cell{First: c.First, State: bytes.Clone(c.State)})
	}
	return fresh
}

// joined tells the cell of two states of one window.
func joined(a, b api.Cell) (api.Cell, api.Errno) {
	s, e := agg.StateOf(a.State)
	if e != api.OK {
		return api.Cell{}, e
	}
	o, e := agg.StateOf(b.State)
	if e != api.OK {
		return api.Cell{}, e
	}
	if e := s.Join(o); e != api.OK {
		return api.Cell{}, e
	}
	return api.Cell{First: a.First, State: s.Bytes()}, api.OK
}

// valuesOf tells an aggregate of each state that has one. An error of any state goes ahead of one of a value.
func valuesOf(l []api.Cell, kind int) ([]api.Point, api.Errno) {
	var points []api.Point
	refused := api.OK
	for _, c := range l {
		s, e := agg.StateOf(c.State)
		if e != api.OK {
			return nil, e
		}
		v, some, e := s.Value(kind)
		switch {
		case e != api.OK:
			refused = e
		case some:
			points = append(points, api.Point{T: c.First, V: v})
		}
	}
	if refused != api.OK {
		return nil, refused
	}
	return points, api.OK
}
