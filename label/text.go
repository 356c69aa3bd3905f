package label

import (
	"strconv"

	"fathom/api"
)

// isBare tells whether a byte may stand in quotes as it is, quotes and backslashes aside.
func isBare(c byte) bool { return c >= 32 && c != 127 }

// quoted tells a text in quotes.
func quoted(s string) []byte {
	const digits = "0123456789abcdef"
	b := []byte{'"'}
	for s != "" {
		r, size, good := front(s)
		switch {
		case r == '"' || r == '\\':
			b = append(b, '\\', s[0])
		case r == '\n':
			b = append(b, '\\', 'n')
		case !good || !isBare(s[0]):
			b = append(b, '\\', 'x', digits[s[0]>>4], digits[s[0]&15])
		default:
			b = append(b, s[:size]...)
		}
		s = s[size:]
	}
	return append(b, '"')
}

// unquoted tells what the quoted text at the front stands for, and how many bytes it has there; 0, if there is none.
func unquoted(s string) ([]byte, int) {
	if s == "" || s[0] != '"' {
		return nil, 0
	}
	var b []byte
	for at := 1; at < len(s); {
		if s[at] == '"' {
			return b, at + 1
		}
		c, size := letter(s[at:])
		if size == 0 {
			return nil, 0
		}
		b = append(b, c)
		at += size
	}
	return nil, 0
}

// letter tells the byte for which the front of what stands in quotes stands, and how many bytes it has there; 0, if it may not stand there.
func letter(s string) (byte, int) {
	if s[0] != '\\' {
		if isBare(s[0]) {
			return s[0], 1
		}
		return 0, 0
	}
	if len(s) < 2 {
		return 0, 0
	}
	switch s[1] {
	case '"', '\\':
		return s[1], 2
	case 'n':
		return '\n', 2
	case 'x':
		if len(s) < 4 {
			return 0, 0
		}
		if n, err := strconv.ParseUint(s[2:4], 16, 8); err == nil {
			return byte(n), 4
		}
	}
	return 0, 0
}

// reader goes through a text; where it is refused it stands at the place of the fault.
type reader struct {
	text string
	at   int
}

// rest tells what is left behind the blanks ahead.
func (r *reader) rest() string {
	for r.at < len(r.text) && r.text[r.at] == ' ' {
		r.at++
	}
	return r.text[r.at:]
}

// take goes behind that byte, if it is the next one.
func (r *reader) take(c byte) bool {
	s := r.rest()
	if s == "" || s[0] != c {
		return false
	}
	r.at++
	return true
}

// labels tells the labels in braces, which are the whole text.
func (r *reader) labels() ([]api.Label, bool) {
	var l []api.Label
	if !r.take('{') {
		return nil, false
	}
	for more := !r.take('}'); more; more = !r.take('}') {
		if len(l) > 0 && !r.take(',') {
			return nil, false
		}
		x, good := r.label()
		if !good {
			return nil, false
		}
		l = append(l, x)
	}
	return l, r.rest() == ""
}

// label tells a name and its value.
func (r *reader) label() (api.Label, bool) {
	s := r.rest()
	if s == "" || !mayBegin(s[0]) {
		return api.Label{}, false
	}
	name := s[:nameSize(s)]
	r.at += len(name)
	if !r.take('=') {
		return api.Label{}, false
	}
	value, size := unquoted(r.rest())
	r.at += size
	return api.Label{Name: name, Value: string(value)}, size > 0
}
