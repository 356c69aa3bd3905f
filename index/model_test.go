package index_test

import (
	"maps"
	"math/rand"
	"slices"
	"testing"

	"fathom/api"
	"fathom/index"
	"fathom/label"
)

// model is an index told by going through all of it.
type model map[uint64][]api.Label

func (w model) add(id uint64, l []api.Label) api.Errno {
	set, e := label.Set(l)
	if e != api.OK {
		return e
	}
	for other, labels := range w {
		if other == id || label.Equal(labels, set) {
			return api.ErrIndexTwice
		}
	}
	w[id] = set
	return api.OK
}

func (w model) find(m ...api.Matcher) []uint64 {
	var l []uint64
	for id, labels := range w {
		if label.MatchAll(m, labels) {
			l = append(l, id)
		}
	}
	slices.Sort(l)
	return l
}

// wordsOf tells all names, if name is empty, or all values of that name, each once, in order.
func (w model) wordsOf(name string) []string {
	var l []string
	for _, labels := range w {
		for _, x := range labels {
			switch name {
			case "":
				l = append(l, x.Name)
			case x.Name:
				l = append(l, x.Value)
			}
		}
	}
	slices.Sort(l)
	return slices.Compact(l)
}

// tells: an index tells what the model does.
func tells(t *testing.T, rnd *rand.Rand, x *index.Index, w model) {
	t.Helper()
	if x.Len() != len(w) {
		t.Errorf("Len: %d, want %d", x.Len(), len(w))
	}
	finds(t, x, slices.Sorted(maps.Keys(w)))
	same(t, "Names", x.Names(), w.wordsOf(""))
	for _, name := range append(names(), "none") {
		same(t, "Values", x.Values(name), w.wordsOf(name))
	}
	for id := range uint64(24) {
		l, there := x.Labels(id)
		want, wanted := w[id]
		if same(t, "Labels", l, want); there != wanted {
			t.Errorf("Labels(%d): %t", id, there)
		}
		if of, found := x.Of(want); wanted && (of != id || !found) {
			t.Errorf("Of(%q): %d, %t; want %d", want, of, found, id)
		}
	}
	for range 6 {
		var m []api.Matcher
		for range rnd.Intn(4) {
			m = append(m, someMatcher(rnd))
		}
		finds(t, x, w.find(m...), m...)
	}
}

// P14.2 to P14.6: any calls, with snapshots that go on by themselves.
func TestAsTheModel(t *testing.T) {
	rnd := rand.New(rand.NewSource(142))
	for range 100 {
		indexes, models := []*index.Index{index.New()}, []model{{}}
		for range 60 {
			at := rnd.Intn(len(indexes))
			x, w := indexes[at], models[at]
			id := uint64(rnd.Intn(24))
			switch rnd.Intn(10) {
			case 0:
				indexes, models = append(indexes, x.Snapshot()), append(models, maps.Clone(w))
			case 1, 2:
				if _, wanted := w[id]; x.Drop(id) != wanted {
					t.Errorf("Drop(%d): not %t", id, wanted)
				}
				delete(w, id)
			default:
				l := someLabels(rnd)
				if e, want := x.Add(id, l), w.add(id, l); e != want {
					t.Errorf("Add(%d, %q): %d, want %d", id, l, e, want)
				}
			}
			if rnd.Intn(3) == 0 {
				tells(t, rnd, x, w)
			}
		}
		for at := range indexes {
			tells(t, rnd, indexes[at], models[at])
		}
	}
}

// some tells an index with any labels.
func some(rnd *rand.Rand) *index.Index {
	x := index.New()
	for range rnd.Intn(40) {
		x.Add(uint64(rnd.Intn(64)), someLabels(rnd))
	}
	return x
}

// found tells what a matcher finds.
func found(t *testing.T, x *index.Index, m ...api.Matcher) []uint64 {
	t.Helper()
	l, e := x.Find(m...)
	if e != api.OK {
		t.Errorf("Find(%s): %d", text(m), e)
	}
	return l
}

// P14.8: several matchers find what is in all that each finds; unlike, and one of several, by what equal finds.
func TestLawsOfFind(t *testing.T) {
	rnd := rand.New(rand.NewSource(143))
	for range 1000 {
		x := some(rnd)
		var m []api.Matcher
		together := found(t, x)
		for range rnd.Intn(17) {
			m = append(m, someMatcher(rnd))
			together = index.And(together, found(t, x, m[len(m)-1]))
			finds(t, x, together, m...)
		}
		name, value := someOf(rnd, names()...), someOf(rnd, append(values(), "")...)
		finds(t, x, index.Without(found(t, x), found(t, x, equal(name, value))), unlike(name, value))
		words := []string{value, someOf(rnd, values()...), someOf(rnd, append(values(), "")...)}
		var either []uint64
		for _, w := range words {
			either = index.Or(either, found(t, x, equal(name, w)))
		}
		finds(t, x, either, oneOf(name, words...))
	}
}

// P14.8: behind an Add and a Drop of the same number the index tells what it told ahead.
func TestAddAndDrop(t *testing.T) {
	rnd := rand.New(rand.NewSource(144))
	done := 0
	for range 1000 {
		x := some(rnd)
		before := told(x)
		id := uint64(rnd.Intn(64))
		if x.Add(id, someLabels(rnd)) != api.OK {
			continue
		}
		done++
		if rnd.Intn(2) == 0 && told(x) == before {
			t.Error("Add has changed nothing")
		}
		if !x.Drop(id) || told(x) != before {
			t.Errorf("it has become %s", told(x))
		}
	}
	if done < 300 {
		t.Errorf("only %d", done)
	}
}
