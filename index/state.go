package index

import (
	"cmp"
	"maps"
	"slices"
	"sync"

	"fathom/api"
	"fathom/label"
)

// entry is a number and its set of labels.
type entry struct {
	id     uint64
	labels []api.Label
}

// state is what stands in an index at one moment: its entries by their numbers, and the same by their sets. But for what is gathered once it never changes, so that whoever has it may read it.
type state struct {
	byID  []entry
	bySet []entry
	once  sync.Once
	found gathered
}

// gathered is what a state's labels tell together: the names, of each name the values, of each label the numbers; all of them rise.
type gathered struct {
	names  []string
	values map[string][]string
	ids    map[api.Label][]uint64
}

// placeOf tells where a number stands among the numbers, or would stand.
func (s *state) placeOf(id uint64) (int, bool) {
	return slices.BinarySearchFunc(s.byID, id, func(x entry, id uint64) int { return cmp.Compare(x.id, id) })
}

// rankOf tells where a set stands among the sets, or would stand.
func (s *state) rankOf(set []api.Label) (int, bool) {
	return slices.BinarySearchFunc(s.bySet, set, func(x entry, set []api.Label) int { return label.Compare(x.labels, set) })
}

// with tells the state that has one more entry, at this place and this rank.
func (s *state) with(place, rank int, x entry) *state {
	return &state{
		byID:  slices.Insert(slices.Clone(s.byID), place, x),
		bySet: slices.Insert(slices.Clone(s.bySet), rank, x),
	}
}

// without tells the state that lacks the entry at this place.
func (s *state) without(place int) *state {
	rank, _ := s.rankOf(s.byID[place].labels)
	return &state{
		byID:  slices.Delete(slices.Clone(s.byID), place, place+1),
		bySet: slices.Delete(slices.Clone(s.bySet), rank, rank+1),
	}
}

// ids tells all numbers.
func (s *state) ids() []uint64 {
	l := make([]uint64, len(s.byID))
	for i, x := range s.byID {
		l[i] = x.id
	}
	return l
}

// gathered tells what the labels tell together; only a state that is asked for it goes through them.
func (s *state) gathered() *gathered {
	s.once.Do(func() { s.found = gather(s.byID) })
	return &s.found
}

// gather goes through entries, whose numbers rise: so do those of each label.
func gather(l []entry) gathered {
	g := gathered{values: make(map[string][]string), ids: make(map[api.Label][]uint64)}
	for _, x := range l {
		for _, one := range x.labels {
			g.ids[one] = append(g.ids[one], x.id)
		}
	}
	for one := range g.ids {
		g.values[one.Name] = append(g.values[one.Name], one.Value)
	}
	for _, values := range g.values {
		slices.Sort(values)
	}
	g.names = slices.Sorted(maps.Keys(g.values))
	return g
}

// taken tells the numbers whose labels a matcher takes: it asks of one name's value alone, and a number without that name has the empty one.
func (s *state) taken(m api.Matcher) []uint64 {
	g := s.gathered()
	var some, named [][]uint64
	for _, value := range g.values[m.Name] {
		one := api.Label{Name: m.Name, Value: value}
		named = append(named, g.ids[one])
		if label.Match(m, []api.Label{one}) {
			some = append(some, g.ids[one])
		}
	}
	if label.Match(m, nil) {
		some = append(some, Without(s.ids(), union(named)))
	}
	return union(some)
}
