package merge

import (
	"cmp"

	"fathom/api"
)

// isBackward: the span ends ahead of its beginning.
func isBackward(s api.Span) bool { return s.From > s.Last }

// apart tells whether a time lies between one span's end and another one's beginning. It adds only to what is below another number, so that nothing wraps.
func apart(a, b api.Span) bool { return a.Last < b.From && a.Last+1 < b.From }

func areNormal(l []api.Span) bool {
	for i, s := range l {
		if isBackward(s) || i > 0 && !apart(l[i-1], s) {
			return false
		}
	}
	return true
}

func byFrom(a, b api.Span) int { return cmp.Compare(a.From, b.From) }

// joined tells spans that stand by their beginnings in normal form.
func joined(l []api.Span) []api.Span {
	var out []api.Span
	for _, s := range l {
		n := len(out)
		if n == 0 || apart(out[n-1], s) {
			out = append(out, s)
		} else {
			out[n-1].Last = max(out[n-1].Last, s.Last)
		}
	}
	return out
}

// united tells the times of two lists of spans, both in normal form.
func united(a, b []api.Span) []api.Span { return joined(woven(a, b, byFrom)) }
