package label

import (
	"slices"
	"strings"

	"fathom/api"
)

// question is what a kind of matcher asks of a value.
type question interface {
	takes(value string) bool
}

type isThis string
type isNot string
type beginsWith string
type isOneOf []string

func (q isThis) takes(value string) bool     { return value == string(q) }
func (q isNot) takes(value string) bool      { return value != string(q) }
func (q beginsWith) takes(value string) bool { return strings.HasPrefix(value, string(q)) }
func (q isOneOf) takes(value string) bool    { return slices.Contains(q, value) }

// questionOf tells what a matcher asks, and whether the matcher may be.
func questionOf(m api.Matcher) (question, bool) {
	q := questionOfKind(m)
	if q == nil || !isName(m.Name) {
		return nil, false
	}
	switch words := q.(type) {
	case isOneOf:
		return q, m.Value == "" && areWords(words)
	default:
		return q, len(m.Words) == 0 && isValue(m.Value)
	}
}

// questionOfKind tells what a matcher of its kind asks; nil, if the kind is none.
func questionOfKind(m api.Matcher) question {
	switch m.Kind {
	case api.MatchEqual:
		return isThis(m.Value)
	case api.MatchUnlike:
		return isNot(m.Value)
	case api.MatchBegins:
		return beginsWith(m.Value)
	case api.MatchOneOf:
		return isOneOf(m.Words)
	}
	return nil
}

// areWords tells whether these may be a matcher's words.
func areWords(l []string) bool {
	if len(l) == 0 || len(l) > api.MaxWords {
		return false
	}
	for _, s := range l {
		if !isValue(s) {
			return false
		}
	}
	return true
}

// textOf tells a question's text, which stands behind the name.
func textOf(q question) string {
	switch q := q.(type) {
	case isThis:
		return "=" + Quote(string(q))
	case isNot:
		return "!=" + Quote(string(q))
	case beginsWith:
		return "^=" + Quote(string(q))
	case isOneOf:
		words := make([]string, len(q))
		for i, s := range q {
			words[i] = Quote(s)
		}
		return " in (" + strings.Join(words, ",") + ")"
	}
	return ""
}
