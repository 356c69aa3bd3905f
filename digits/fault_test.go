package digits_test

import (
	"math/rand"
	"regexp"
	"strconv"
	"strings"
	"testing"

	"fathom/api"
	"fathom/digits"
)

// grammar tells a width's number's texts by the chapter's words, and what may follow so that any beginning of one becomes one.
type grammar struct {
	texts  *regexp.Regexp
	follow []string
}

func grammarOf(payload int, nan string) grammar {
	g := grammar{
		texts:  regexp.MustCompile(`^-?(inf|nan|nan:` + nan + `|0x[0-9a-f]+(\.[0-9a-f]+)?p-?[0-9]+|[0-9]+(\.[0-9]+)?([eE][+-]?[0-9]+)?)$`),
		follow: []string{"", "1", "p1", "1p1", "nf", "f", "an", "n"},
	}
	for i := range payload - 1 {
		g.follow = append(g.follow, strings.Repeat("0", i+1)+"1")
	}
	return g
}

func grammar64() grammar { return grammarOf(13, `[0-9a-f]{13}`) }
func grammar32() grammar { return grammarOf(6, `[0-7][0-9a-f]{5}`) }

func (g grammar) takes(s string) bool {
	return g.texts.MatchString(s) && !strings.HasSuffix(s, "nan:0000000000000") && !strings.HasSuffix(s, "nan:000000")
}

// fault tells the fault that is wanted.
func (g grammar) fault(s string) api.Fault {
	if g.takes(s) {
		return api.Fault{}
	}
	for at := len(s); ; at-- {
		for _, more := range g.follow {
			if g.takes(s[:at] + more) {
				return api.Fault{Code: api.ErrDigitsText, At: at}
			}
		}
	}
}

func checkFaults(t *testing.T, s string) {
	t.Helper()
	b, fault := digits.Parse(s)
	same(t, "Parse("+strconv.Quote(s)+")", fault, grammar64().fault(s))
	if fault != (api.Fault{}) {
		same(t, "beside the fault", b, 0)
	}
	c, fault := digits.Parse32(s)
	same(t, "Parse32("+strconv.Quote(s)+")", fault, grammar32().fault(s))
	if fault != (api.Fault{}) {
		same(t, "beside the fault", c, 0)
	}
}

// P5.6: all texts of up to three bytes of those that stand in numbers, and some that don't.
func TestShortTexts(t *testing.T) {
	const alphabet = "-+.:019afinxpeEXNI \x00\xff"
	texts := []string{""}
	for range 3 {
		longer := []string{""}
		for _, s := range texts {
			for i := range len(alphabet) {
				longer = append(longer, s+alphabet[i:i+1])
			}
		}
		texts = longer
	}
	g, h := grammar64(), grammar32()
	for _, s := range texts {
		_, fault := digits.Parse(s)
		same(t, "Parse("+strconv.Quote(s)+")", fault, g.fault(s))
		_, fault = digits.Parse32(s)
		same(t, "Parse32("+strconv.Quote(s)+")", fault, h.fault(s))
	}
}

// P5.6: texts of numbers with some runes changed, taken out, or laid between; and their beginnings.
func TestSpoiledTexts(t *testing.T) {
	r := rand.New(rand.NewSource(62))
	good := []string{"-1.5e-10", "0x1.8p-3", "123E+45", "nan:0000000000001", "nan:000001", "-nan:8000000000000", "nan:400000", "-inf", "nan", "0.25", "00012", "-0xdeadbeef.1p10", "9e9"}
	runes := []rune("-+.:0123456789abcdefghinxpeEPXN _é１٣\x00\ufffd𝟙")
	for range 3000 {
		l := []rune(good[r.Intn(len(good))])
		for range r.Intn(3) {
			i, c := r.Intn(len(l)), runes[r.Intn(len(runes))]
			switch r.Intn(3) {
			case 0:
				l[i] = c
			case 1:
				l = append(l[:i], append([]rune{c}, l[i:]...)...)
			case 2:
				l = append(l[:i], append([]rune{}, l[i+1:]...)...)
			}
			l = append(l, l[r.Intn(len(l)+1):]...)
			if len(l) == 0 {
				l = []rune("1")
			}
		}
		checkFaults(t, string(l))
		checkFaults(t, string(l)[:r.Intn(len(string(l)))])
	}
}

func TestFaultsByHand(t *testing.T) {
	for s, at := range map[string]int{
		"": 0, "-": 1, "--1": 1, "+1": 0, "1 ": 1, " 1": 0, "A": 0, ".5": 0, "5.": 2, "-.5": 1, "1.x": 2, "1..2": 2, "1.2.3": 3, "1e": 2, "1e+": 3, "1e-": 3, "1e+-1": 3, "1e1.5": 3, "1ee1": 2, "1_0": 1, "1p0": 1,
		"0x": 2, "0x1": 3, "0x.8p0": 2, "0x1.p0": 4, "0x1.8": 5, "0x1p": 4, "0x1p-": 5, "0x1p+1": 4, "0x1p1.0": 5, "0x1pa": 4, "0X1p0": 1, "0x1P0": 3, "0xAp0": 2, "0x1e5": 5, "00x1p0": 2, "-0x": 3, "0x-1p0": 2, "1x1p0": 1,
		"i": 1, "in": 2, "infx": 3, "infinity": 3, "Inf": 0, "INF": 0, "n": 1, "na": 2, "nax": 2, "nanx": 3, "NaN": 0, "nan:": 4, "nan:1": 5, "nan:0000000000000": 16, "nan:00000000000001": 16, "nan:00000000000010": 17, "nan:000000000000A": 16, "nan:000000000000g": 16, "-nan:0000000000000": 17, "nan:-1": 4, "nan:000001": 10,
		"1\xff": 1, "\xff": 0, "1é": 1, "１": 0, "1\x00": 1, "nan:é": 4, "i\u0131": 1,
	} {
		b, fault := digits.Parse(s)
		same(t, "Parse("+strconv.Quote(s)+")", fault, api.Fault{Code: api.ErrDigitsText, At: at})
		same(t, "beside it", b, 0)
	}
	for s, at := range map[string]int{"nan:8": 4, "nan:8000000000000": 4, "nan:000000": 9, "nan:7fffff0": 10, "nan:00000": 9, "nan:800000": 4, "-nan:f": 5, "nan:0000001": 9, "nan:7ffffg": 9, "0x1": 3} {
		b, fault := digits.Parse32(s)
		same(t, "Parse32("+strconv.Quote(s)+")", fault, api.Fault{Code: api.ErrDigitsText, At: at})
		same(t, "beside it", b, 0)
	}
}

// P5.6: texts as long as they may be, and longer: that goes ahead of what is in them.
func TestLongTexts(t *testing.T) {
	for _, s := range []string{strings.Repeat("0", api.MaxText+1), strings.Repeat("x", api.MaxText+1), strings.Repeat("1", 2*api.MaxText), strings.Repeat("é", api.MaxText/2) + "1"} {
		b, fault := digits.Parse(s)
		same(t, "Parse", fault, api.Fault{Code: api.ErrDigitsLong})
		same(t, "beside it", b, 0)
		c, fault := digits.Parse32(s)
		same(t, "Parse32", fault, api.Fault{Code: api.ErrDigitsLong})
		same(t, "beside it", c, 0)
	}
	parsed64(t, strings.Repeat("0", api.MaxText-2)+"1", f(1))
	parsed64(t, strings.Repeat("0", api.MaxText-4)+".25", f(0.25))
	parsed32(t, "1e-"+strings.Repeat("0", api.MaxText-5)+"1", f32(0.1))
	parsed64(t, "0x"+strings.Repeat("f", api.MaxText-11)+"p-262100", f(1)) // 4 * (MaxText - 11)
	for s, at := range map[string]int{
		strings.Repeat("1", api.MaxText-1) + "e":  api.MaxText,
		strings.Repeat("1", api.MaxText-1) + "x":  api.MaxText - 1,
		"0x" + strings.Repeat("f", api.MaxText-2): api.MaxText,
		strings.Repeat("é", api.MaxText/2):        0,
	} {
		_, fault := digits.Parse(s)
		same(t, "Parse("+brief(s)+")", fault, api.Fault{Code: api.ErrDigitsText, At: at})
	}
}
