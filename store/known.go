package store

import (
	"slices"
	"strings"

	"fathom/api"
	"fathom/index"
	"fathom/label"
)

// series is one that may be known.
type series struct {
	key    string
	kind   int
	labels []api.Label
}

func isKind(kind int) bool { return kind == api.KindWide || kind == api.KindNarrow }

// seriesOf tells the series of a key and a kind, if these may be.
func seriesOf(key string, kind int) (series, bool) {
	labels, e := label.OfKey([]byte(key))
	if e != api.OK || len(key) > api.MaxKey || !isKind(kind) {
		return series{}, false
	}
	return series{key: key, kind: kind, labels: labels}, true
}

// known is the series that were ever written, by their numbers, which are found by keys and by labels.
type known struct {
	list  []series
	byKey map[string]int
	index *index.Index
	bytes int // of all keys
}

func newKnown() *known {
	return &known{byKey: map[string]int{}, index: index.New()}
}

// kindOf tells the kind of the series under a key; KindNone, if there is none.
func (k *known) kindOf(key string) int {
	if n, there := k.byKey[key]; there {
		return k.list[n].kind
	}
	return api.KindNone
}

// hasRoom tells whether so many series more, with so many bytes of keys, may be known.
func (k *known) hasRoom(more []series) bool {
	size := k.bytes
	for _, x := range more {
		size += len(x.key)
	}
	return len(k.list)+len(more) <= api.MaxSeries && size <= api.MaxKeys
}

// add has a series be known that was not, and for which there is room: so the index takes it.
func (k *known) add(x series) {
	n := len(k.list)
	k.index.Add(uint64(n), x.labels)
	k.byKey[x.key] = n
	k.bytes += len(x.key)
	k.list = append(k.list, x)
}

// find tells the numbers of the series that match takes, rising.
func (k *known) find(match []api.Matcher) ([]uint64, api.Errno) {
	l, e := k.index.Find(match...)
	if e != api.OK {
		return nil, api.ErrStoreMatch
	}
	return l, api.OK
}

// inOrder tells the series of these numbers, in the order of their keys.
func (k *known) inOrder(numbers []uint64) []series {
	var l []series
	for _, n := range numbers {
		l = append(l, k.list[n])
	}
	slices.SortFunc(l, func(a, b series) int { return strings.Compare(a.key, b.key) })
	return l
}

// told tells all that is known, in new memory.
func (k *known) told() []api.Series {
	var l []api.Series
	for _, x := range k.list {
		l = append(l, api.Series{Labels: slices.Clone(x.labels), Kind: x.kind})
	}
	return l
}
