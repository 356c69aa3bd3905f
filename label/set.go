package label

import (
	"strings"
	"unicode/utf8"

	"fathom/api"
)

// isName tells whether a text may be a label's name.
func isName(s string) bool {
	if len(s) > api.MaxName || s == "" || !mayBegin(s[0]) {
		return false
	}
	return nameSize(s) == len(s)
}

// mayBegin tells whether a name may begin with that.
func mayBegin(c byte) bool { return c >= 'a' && c <= 'z' || c >= 'A' && c <= 'Z' || c == '_' }

// nameSize tells how many bytes at the front may stand in a name behind its first one.
func nameSize(s string) int {
	n := 0
	for n < len(s) && (mayBegin(s[n]) || s[n] >= '0' && s[n] <= '9') {
		n++
	}
	return n
}

// isValue tells whether a text may be a label's value.
func isValue(s string) bool {
	if len(s) > api.MaxValue {
		return false
	}
	for s != "" {
		_, size, good := front(s)
		if !good {
			return false
		}
		s = s[size:]
	}
	return true
}

// front tells the rune at the front of a text that is not empty, how many bytes it has, and whether these are good UTF-8: the rune by which the library tells bad bytes may be written well, too, but then in more than one byte.
func front(s string) (rune, int, bool) {
	r, size := utf8.DecodeRuneInString(s)
	return r, size, r != utf8.RuneError || size > 1
}

// isSet tells whether labels are in the one form.
func isSet(l []api.Label) bool {
	if len(l) > api.MaxLabels {
		return false
	}
	for i, x := range l {
		if !isName(x.Name) || !isValue(x.Value) || x.Value == "" {
			return false
		}
		if i > 0 && x.Name <= l[i-1].Name {
			return false
		}
	}
	return true
}

// refusal tells the error of the first label of which there is no set.
func refusal(l []api.Label) api.Errno {
	seen := make(map[string]struct{}, len(l))
	for _, x := range l {
		if !isName(x.Name) {
			return api.ErrLabelName
		}
		if !isValue(x.Value) {
			return api.ErrLabelValue
		}
		if _, twice := seen[x.Name]; twice {
			return api.ErrLabelTwice
		}
		seen[x.Name] = struct{}{}
	}
	return api.OK
}

// compare tells which of two labels stands ahead.
func compare(a, b api.Label) int {
	if n := strings.Compare(a.Name, b.Name); n != 0 {
		return n
	}
	return strings.Compare(a.Value, b.Value)
}

func valueOf(l []api.Label, name string) string {
	for _, x := range l {
		if x.Name == name {
			return x.Value
		}
	}
	return ""
}

// own tells a label in memory of its own, so that no long text is held by a piece of it.
func own(x api.Label) api.Label {
	return api.Label{Name: strings.Clone(x.Name), Value: strings.Clone(x.Value)}
}
