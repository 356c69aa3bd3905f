package roll

import (
	"math"

	"fathom/api"
)

// least is the least int64 among unsigned numbers: what a time is less this is how far it lies behind the least one.
const least = 1 << 63

func areSteps(l ...api.Window) bool {
	for _, w := range l {
		if w.Step <= 0 {
			return false
		}
	}
	return true
}

// apart tells how far two times lie from one another: that may be more than an int64 holds, but never more than an unsigned number does.
func apart(a, b int64) uint64 {
	if a < b {
		a, b = b, a
	}
	return uint64(a) - uint64(b)
}

// into tells how far a time lies behind the beginning of its window, be that an int64 or not.
func into(w api.Window, t int64) uint64 {
	step := uint64(w.Step)
	r := apart(t, w.Origin) % step
	if t < w.Origin && r > 0 {
		return step - r
	}
	return r
}

func first(w api.Window, t int64) int64 {
	back := into(w, t)
	if back > uint64(t)-least {
		return math.MinInt64
	}
	return int64(uint64(t) - back)
}

func last(w api.Window, t int64) int64 {
	ahead := uint64(w.Step) - 1 - into(w, t)
	if ahead > apart(math.MaxInt64, t) {
		return math.MaxInt64
	}
	return int64(uint64(t) + ahead)
}

// next tells the name of the window behind a time's, if that begins at an int64.
func next(w api.Window, t int64) (int64, bool) {
	l := last(w, t)
	if l == math.MaxInt64 {
		return 0, false
	}
	return l + 1, true
}

// within tells the times of a window that are int64s.
func within(w api.Window, t int64) api.Span {
	return api.Span{From: first(w, t), Last: last(w, t)}
}

func whole(w api.Window, s api.Span) bool {
	return s.From <= s.Last && first(w, s.From) == s.From && last(w, s.Last) == s.Last
}

func fits(fine, wide api.Window) bool {
	return wide.Step%fine.Step == 0 && apart(fine.Origin, wide.Origin)%uint64(fine.Step) == 0
}

// walk tells what goes through windows: of times that rise it tells the name of each one's window, and whether that is another one than the window of the time ahead.
func walk(w api.Window) func(t int64) (name int64, fresh bool) {
	in := api.Span{}
	begun := false
	return func(t int64) (int64, bool) {
		fresh := !begun || t > in.Last
		if fresh {
			in, begun = within(w, t), true
		}
		return in.From, fresh
	}
}
