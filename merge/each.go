package merge

import (
	"slices"
	"sync"

	"fathom/api"
)

// senders: the goroutines of one Each, at most.
const senders = 16

// few tells the same by no more runs than there may be senders: neighbours are put together.
func few(l []api.Run) []api.Run {
	var out []api.Run
	for group := range slices.Chunk(l, max(1, (len(l)+senders-1)/senders)) {
		out = append(out, all(group))
	}
	return out
}

// each hands the points that stand to f, as long as it says true. However it is left, by a panic of f too, the senders have ended.
func each(l []api.Run, f func(p api.Point) bool) int {
	var wait sync.WaitGroup
	stop := make(chan struct{})
	defer wait.Wait()
	defer close(stop)
	feeds := opened(l, &wait, stop)
	n := 0
next:
	p, there := earliest(feeds)
	if !there {
		return n
	}
	n++
	if f(p) {
		goto next
	}
	return n
}

// feed is the points that one goroutine sends; the next one has been received.
type feed struct {
	points <-chan api.Point
	next   api.Point
	there  bool
}

func (x *feed) receive() { x.next, x.there = <-x.points }

// opened has a goroutine send each run's points, but those that a newer one's spans hide.
func opened(l []api.Run, wait *sync.WaitGroup, stop <-chan struct{}) []*feed {
	var feeds []*feed
	var hidden []api.Span
	for _, r := range l {
		left := bare(r.Points, hidden)
		hidden = united(hidden, r.Spans)
		points := make(chan api.Point)
		wait.Add(1)
		go send(left, points, stop, wait.Done)
		feeds = append(feeds, &feed{points: points})
	}
	for _, x := range feeds {
		x.receive()
	}
	return feeds
}

// send sends points, until it is stopped, and closes the channel.
func send(l []api.Point, points chan<- api.Point, stop <-chan struct{}, done func()) {
	defer done()
	defer close(points)
	for _, p := range l {
		select {
		case points <- p:
		case <-stop:
			return
		}
	}
}

// earliest takes the next point of all, of several at one time the newest run's; the others at that time are taken with it, and forgotten.
func earliest(feeds []*feed) (api.Point, bool) {
	var first *feed
	for _, x := range feeds {
		if x.there && (first == nil || x.next.T < first.next.T) {
			first = x
		}
	}
	if first == nil {
		return api.Point{}, false
	}
	p := first.next
	for _, x := range feeds {
		if x.there && x.next.T == p.T {
			x.receive()
		}
	}
	return p, true
}
