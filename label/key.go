package label

import (
	"strings"

	"fathom/api"
)

// A byte 0 ends a name or stands in a value; in a value the byte behind it says which. An end is below all that may go on: so keys stand in the order of their sets.
const (
	nought    = "\x00"
	inValue   = "\x00\xff"
	endsValue = "\x00\x01"
)

// keyOf tells a set's key.
func keyOf(l []api.Label) []byte {
	var b []byte
	for _, x := range l {
		b = append(b, x.Name+nought...)
		b = append(b, strings.ReplaceAll(x.Value, nought, inValue)...)
		b = append(b, endsValue...)
	}
	return b
}

// keyed tells the labels of a text that is laid as a key is; whether they are a set, too, is not asked.
func keyed(s string) ([]api.Label, bool) {
	var l []api.Label
	for s != "" {
		name, rest, found := strings.Cut(s, nought)
		if !found {
			return nil, false
		}
		value, size := keyedValue(rest)
		if size == 0 {
			return nil, false
		}
		l = append(l, api.Label{Name: strings.Clone(name), Value: value})
		s = rest[size:]
	}
	return l, true
}

// keyedValue tells the value at the front of a key's rest, and how many bytes it has there with its end; 0, if there is none.
func keyedValue(s string) (string, int) {
	var b []byte
	for at := 0; at < len(s); {
		rest := s[at:]
		switch {
		case strings.HasPrefix(rest, endsValue):
			return string(b), at + len(endsValue)
		case strings.HasPrefix(rest, inValue):
			b = append(b, 0)
			at += len(inValue)
		case rest[0] == 0:
			return "", 0
		default:
			b = append(b, rest[0])
			at++
		}
	}
	return "", 0
}
