package label_test

import (
	"fmt"
	"math/rand"
	"regexp"
	"slices"
	"strconv"
	"strings"
	"testing"

	"fathom/api"
	"fathom/label"
)

// wantQuote tells a text in quotes, byte by byte.
func wantQuote(s string) string {
	good := make([]bool, len(s))
	for at := range len(s) {
		for i := range wellFormed(s[at:]) {
			good[at+i] = true
		}
	}
	var out strings.Builder
	for i, c := range []byte(s) {
		switch {
		case c == '"':
			out.WriteString(`\"`)
		case c == '\\':
			out.WriteString(`\\`)
		case c == 10:
			out.WriteString(`\n`)
		case c < 32 || c == 127 || !good[i]:
			fmt.Fprintf(&out, `\x%02x`, c)
		default:
			out.WriteByte(c)
		}
	}
	return `"` + out.String() + `"`
}

var inQuotes = regexp.MustCompile(`^"([^"\\\x00-\x1f\x7f]|\\["\\n]|\\x[0-9a-fA-F][0-9a-fA-F])*"`)
var escape = regexp.MustCompile(`\\(["\\n]|x..)`)

// wantUnquote tells what the quoted text at the front stands for, and its length; 0, if there is none.
func wantUnquote(s string) (string, int) {
	whole := inQuotes.FindString(s)
	if whole == "" {
		return "", 0
	}
	value := escape.ReplaceAllStringFunc(whole[1:len(whole)-1], func(x string) string {
		switch x[1] {
		case 'n':
			return "\n"
		case 'x':
			n, _ := strconv.ParseInt(x[2:], 16, 64)
			return string([]byte{byte(n)})
		}
		return x[1:]
	})
	return value, len(whole)
}

// unquotes: Unquote tells what the chapter says of a text.
func unquotes(t *testing.T, s string) {
	t.Helper()
	want, size := wantUnquote(s)
	e := api.OK
	if size == 0 {
		e = api.ErrLabelForm
	}
	if v, n, got := label.Unquote(s); v != want || n != size || got != e {
		t.Errorf("Unquote(%q): %q, %d, %d; want %q, %d, %d", s, v, n, got, want, size, e)
	}
}

// The chapter's sixth example, and what stands beside it.
func TestQuoteExamples(t *testing.T) {
	for s, want := range map[string]string{
		"\nA\xff": `"\nA\xff"`, "": `""`, `"`: `"\""`, `\`: `"\\"`, "\x00\x1f\x20\x7e\x7f": `"\x00\x1f ~\x7f"`, "\t\r": `"\x09\x0d"`,
		"\u0080\u00e9\ufffd": "\"\u0080\u00e9\ufffd\"", "\xe2\x82": `"\xe2\x82"`, "\xe2\x82\xac\xac": "\"\u20ac\\xac\"", "\xed\xa0\x80": `"\xed\xa0\x80"`, "\xc0\xaf": `"\xc0\xaf"`, "'": `"'"`,
	} {
		if got := label.Quote(s); got != want {
			t.Errorf("Quote(%q): %s, want %s", s, got, want)
		}
	}
	for _, c := range []struct {
		s, want string
		n       int
	}{{`"a" b`, "a", 3}, {`""`, "", 2}, {`"""`, "", 2}, {`"\""`, `"`, 4}, {`"\\"x`, `\`, 4}, {`"\n\x4A\x4a\xfF"`, "\nJJ\xff", 16}, {"\"\xff\xc3\"", "\xff\xc3", 4}} {
		if v, n, e := label.Unquote(c.s); v != c.want || n != c.n || e != api.OK {
			t.Errorf("Unquote(%s): %q, %d, %d", c.s, v, n, e)
		}
	}
	for _, s := range []string{`"a\x4"`, ``, `a`, ` "a"`, `"`, `"a`, `"\"`, `"\`, `"\x`, `"\x4`, `"\x41`, `"\xg0"`, `"\x0g"`, `"\x+1"`, `"\x-1"`, `"\x 1"`, `"\x_1"`, `"\X41"`, `"\N"`, `"\t"`, `"\0"`, `"\'"`, `'a'`, "\"\n\"", "\"\x00\"", "\"\x1f\"", "\"\x7f\"", "\"a\\\n\""} {
		if v, n, e := label.Unquote(s); v != "" || n != 0 || e != api.ErrLabelForm {
			t.Errorf("Unquote(%q): %q, %d, %d", s, v, n, e)
		}
	}
}

// P13.3: each byte as it is and behind a backslash; each pair of bytes behind \x.
func TestUnquoteByteByByte(t *testing.T) {
	for a := range 256 {
		one := string([]byte{byte(a)})
		unquotes(t, `"`+one+`"`)
		unquotes(t, `"a\`+one+`"`)
		unquotes(t, `"\`+one+`41"`)
		unquotes(t, one+`a"`)
		for b := range 256 {
			unquotes(t, `"\x`+string([]byte{byte(a), byte(b)})+`"`)
		}
	}
}

// P13.3, P13.10: any bytes are quoted as the chapter says, and come back, whatever stands behind them.
func TestQuoteOfAny(t *testing.T) {
	rnd := rand.New(rand.NewSource(133))
	look := func(s string) {
		q := label.Quote(s)
		if want := wantQuote(s); q != want {
			t.Errorf("Quote(%q): %s, want %s", s, q, want)
		}
		for _, behind := range []string{"", `"`, `\`, " b", "\x00", q, "\xff"} {
			if v, n, e := label.Unquote(q + behind); v != s || n != len(q) || e != api.OK {
				t.Errorf("Unquote(%s%q): %q, %d, %d", q, behind, v, n, e)
			}
		}
	}
	for a := range 256 {
		look(string([]byte{byte(a)}))
		look(string([]byte{'x', byte(a), '0'}))
	}
	for range 20000 {
		look(someBytes(rnd))
	}
	look(strings.Repeat("long \xff\n", 30000))
}

// P13.3: any text with quotes and backslashes in it.
func TestUnquoteOfAny(t *testing.T) {
	rnd := rand.New(rand.NewSource(134))
	for range 60000 {
		s := someOf(rnd, `"`, `"`, `"`, "")
		for range rnd.Intn(8) {
			s += someOf(rnd, `"`, `\`, `\`, "n", "x", "4", "A", "f", "g", "a", " ", "\xff", "\x01", `\x41`, `\\`)
		}
		unquotes(t, s)
	}
}

// texts: Text tells that of labels.
func texts(t *testing.T, l []api.Label, want string) {
	t.Helper()
	if s, e := label.Text(l); s != want || e != api.OK {
		t.Errorf("Text(%s): %s, %d; want %s", text(l), s, e, want)
	}
}

// The chapter's second example; and values that are quoted.
func TestTextExamples(t *testing.T) {
	texts(t, list("a", "y", "b", `x"`), `{a="y",b="x\""}`)
	texts(t, nil, `{}`)
	texts(t, list("A", "\x00\n", "_z9", "\u00e9\ufffd", "a", "\\"), "{A=\"\\x00\\n\",_z9=\"\u00e9\ufffd\",a=\"\\\\\"}")
	want := ""
	for _, x := range many(16) {
		want += "," + x.Name + `="x"`
	}
	texts(t, many(16), "{"+want[1:]+"}")
}

// noSets tells lists that are no sets.
func noSets() [][]api.Label {
	return [][]api.Label{
		list("b", "x", "a", "y"), list("a", "x", "a", "y"), list("a", "x", "a", "x"), list("a", ""), list("a", "x", "b", ""), list("1", "x"), list("", "x"),
		list("a\x00", "x"), list("a", "\xff"), list("a", "x", "b", "\xed\xa0\x80"), list("a", strings.Repeat("v", 257)), list(strings.Repeat("n", 65), "x"), list("a", "x", "B", "x"), many(17),
		append(many(15), list("n", "x")...), append(many(2), many(1)...),
	}
}

// P13.4, P13.5: what is no set has neither a text nor a key.
func TestNoSets(t *testing.T) {
	for _, l := range noSets() {
		if s, e := label.Text(l); s != "" || e != api.ErrLabelForm {
			t.Errorf("Text(%.100s): %.100s, %d", text(l), s, e)
		}
		if b, e := label.Key(l); len(b) != 0 || e != api.ErrLabelForm {
			t.Errorf("Key(%.100s): %.100x, %d", text(l), b, e)
		}
	}
}

// wantParse reads a text by states: what has been read last says what may stand next.
func wantParse(s string) ([]api.Label, api.Fault) {
	const (
		start = iota
		open
		comma
		named
		equals
		valued
		closed
	)
	var l []api.Label
	state, at := start, 0
	fault := func() ([]api.Label, api.Fault) { return nil, api.Fault{Code: api.ErrLabelForm, At: at} }
	for at < len(s) {
		c := s[at]
		switch {
		case c == ' ':
			at++
		case state == start && c == '{':
			state = open
			at++
		case (state == open || state == comma) && wantName(string(c)):
			end := at + 1
			for end < len(s) && wantName("a"+string(s[end])) {
				end++
			}
			l = append(l, api.Label{Name: s[at:end]})
			state, at = named, end
		case state == named && c == '=':
			state = equals
			at++
		case state == equals && c == '"':
			v, size := wantUnquote(s[at:])
			if size == 0 {
				return fault()
			}
			l[len(l)-1].Value = v
			state, at = valued, at+size
		case state == valued && c == ',':
			state = comma
			at++
		case (state == valued || state == open) && c == '}':
			state = closed
			at++
		default:
			return fault()
		}
	}
	if state != closed {
		return fault()
	}
	set, e := wantOfSet(l)
	return set, api.Fault{Code: e}
}

// parses: Parse tells what the chapter says.
func parses(t *testing.T, s string) {
	t.Helper()
	want, fault := wantParse(s)
	if l, f := label.Parse(s); text(l) != text(want) || f != fault || f.Code != api.OK && len(l) > 0 {
		t.Errorf("Parse(%.200q): %s, %v; want %s, %v", s, text(l), f, text(want), fault)
	}
}

// The chapter's second example, and faults at each place.
func TestParseExamples(t *testing.T) {
	for s, want := range map[string][]api.Label{
		`{ b = "x" , a="y" }`: list("a", "y", "b", "x"), `{}`: nil, `  {  }  `: nil, `{a=""}`: nil, `{b="",a="y"}`: list("a", "y"), `{a="\x41\n"}`: list("a", "A\n"),
		` { a9_ = "x}" } `: list("a9_", "x}"), "{a=\"\xc3\xa9\",b=\"\\xc3\\xa9\"}": list("a", "\u00e9", "b", "\u00e9"), `{a="\xf0\x90` + "\x80" + `\x80"}`: list("a", "\U00010000"),
	} {
		if l, f := label.Parse(s); text(l) != text(want) || f != (api.Fault{}) {
			t.Errorf("Parse(%s): %s, %v", s, text(l), f)
		}
		parses(t, s)
	}
	for s, at := range map[string]int{
		"": 0, "  ": 2, "a": 0, "{": 1, "{ ": 2, "{a}": 2, "{a": 2, "{a ": 3, "{a=": 3, "{a= ": 4, `{a="x`: 3, `{a= "x`: 4, `{a="x"`: 6, `{a="x" `: 7, `{a="x"}}`: 7, `{a="x"} }`: 8, `{a="x"} b`: 8,
		"{,}": 1, `{a="x",}`: 7, `{a="x", }`: 8, `{a="x",,`: 7, `{a="x",`: 7, `{a="x"b="y"}`: 6, `{a="x" b="y"}`: 7, "{a=x}": 3, `{9="x"}`: 1, `{ 9="x"}`: 2, `{a-b="x"}`: 2, `{a b="x"}`: 3, `{a=="x"}`: 3,
		`{="x"}`: 1, `{"a"="x"}`: 1, `{a="\t"}`: 3, "{a=\"\n\"}": 3, "\t{}": 0, "{}\n": 2, "{\t}": 1, "{a\u00e9=\"x\"}": 2, `{{}}`: 1, `}`: 0, `{a="x"=`: 6, `{a="x";b="y"}`: 6, "{a='x'}": 3, "{a!=\"x\"}": 2,
	} {
		if l, f := label.Parse(s); len(l) > 0 || f != (api.Fault{Code: api.ErrLabelForm, At: at}) {
			t.Errorf("Parse(%s): %s, %v; want place %d", s, text(l), f, at)
		}
		parses(t, s)
	}
}

// P13.4: behind all faults of the form come Set's errors, with no place; of the labels in the order in which they stand.
func TestParseErrorsOfSets(t *testing.T) {
	long := strings.Repeat("n", 65)
	for s, want := range map[string]api.Errno{
		`{a="x",a="y"}`: api.ErrLabelTwice, `{a="",a="y"}`: api.ErrLabelTwice, `{a="\xff"}`: api.ErrLabelValue, "{a=\"\xff\"}": api.ErrLabelValue, `{` + long + `="x"}`: api.ErrLabelName,
		`{` + long + `="\xff"}`: api.ErrLabelName, `{a="\xff",` + long + `="x"}`: api.ErrLabelValue, `{a="x",a="y",b="\xff"}`: api.ErrLabelTwice, `{a="` + strings.Repeat("v", 257) + `"}`: api.ErrLabelValue,
	} {
		if l, f := label.Parse(s); len(l) > 0 || f != (api.Fault{Code: want}) {
			t.Errorf("Parse(%s): %s, %v", s, text(l), f)
		}
		if l, f := label.Parse(s + "x"); len(l) > 0 || f != (api.Fault{Code: api.ErrLabelForm, At: len(s)}) {
			t.Errorf("Parse(%sx): %s, %v", s, text(l), f)
		}
	}
	var parts []string
	for _, x := range many(17) {
		parts = append(parts, x.Name+`="x"`)
	}
	slices.Reverse(parts)
	if _, f := label.Parse("{" + strings.Join(parts, ",") + "}"); f != (api.Fault{Code: api.ErrLabelMany}) {
		t.Errorf("17: %v", f)
	}
	if l, f := label.Parse("{" + strings.Join(parts[1:], ",") + "}"); f != (api.Fault{}) || text(l) != text(many(16)) {
		t.Errorf("16: %s, %v", text(l), f)
	}
}

// P13.4: every short text of what stands in such texts.
func TestParseOfAllShort(t *testing.T) {
	const letters = `{}a=", \9`
	for size := range 6 {
		n := 1
		for range size {
			n *= len(letters)
		}
		for x := range n {
			b := make([]byte, size)
			for i := range b {
				b[i] = letters[x%len(letters)]
				x /= len(letters)
			}
			parses(t, string(b))
		}
	}
}

// P13.4: texts with a byte too many, too few or another one at any place.
func TestParseOfChanged(t *testing.T) {
	rnd := rand.New(rand.NewSource(135))
	for _, s := range []string{`{a="x",b0="y"}`, ` { a = "\x41" , _b = "" } `, "{a=\"\u00e9\\n\",A=\"\\\\\"}"} {
		parses(t, s)
		for at := range len(s) {
			parses(t, s[:at])
			parses(t, s[:at]+s[at+1:])
			for c := range 256 {
				parses(t, s[:at]+string([]byte{byte(c)})+s[at+1:])
				parses(t, s[:at]+string([]byte{byte(c)})+s[at:])
			}
		}
	}
	for range 20000 {
		s := someOf(rnd, "{", "{ ", " {")
		for range rnd.Intn(5) {
			s += someOf(rnd, `a="x"`, `b = "y" `, `c=""`, `a=`, `d`, `"x"`, `e="\xff"`) + someOf(rnd, ",", ",", " , ", "", ",,")
		}
		parses(t, s+someOf(rnd, "}", `z="0"}`, " } ", "", "}x"))
	}
}

// P13.11, R3: long texts are gone through, too.
func TestParseOfLong(t *testing.T) {
	parses(t, "{"+strings.Repeat(" ", 300000))
	parses(t, "{"+strings.Repeat("a", 300000)+`="x"}`)
	parses(t, `{a="`+strings.Repeat("v", 300000))
	s := strings.Repeat(`a="x",`, 100000)
	if _, f := label.Parse("{" + s); f != (api.Fault{Code: api.ErrLabelForm, At: 600001}) {
		t.Errorf("%v", f)
	}
	if _, f := label.Parse("{" + s + `a="x"}`); f != (api.Fault{Code: api.ErrLabelTwice}) {
		t.Errorf("%v", f)
	}
}
