package agg

import (
	"fathom/api"
	"fathom/float"
)

// reach is from the least to the greatest of the values that count; some tells whether there is one. Lesser is by the order of all patterns.
type reach struct {
	some            bool
	least, greatest uint64
}

func isNaN(v uint64) bool { return v&^api.Neg64 > api.Inf64 }

func below(a, b uint64) bool { return float.Key(a) < float.Key(b) }

// holds tells whether a value lies from the least to the greatest.
func (r reach) holds(v uint64) bool {
	return r.some && !below(v, r.least) && !below(r.greatest, v)
}

// take has the reach hold a value, too, if it counts.
func (r *reach) take(v uint64) {
	switch {
	case isNaN(v):
	case !r.some:
		*r = reach{some: true, least: v, greatest: v}
	case below(v, r.least):
		r.least = v
	case below(r.greatest, v):
		r.greatest = v
	}
}

// join has it hold what another one does.
func (r *reach) join(o reach) {
	if o.some {
		r.take(o.least)
		r.take(o.greatest)
	}
}
