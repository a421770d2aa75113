package serve

import (
	"math"

	"shutter/api"
	"shutter/arena"
)

// publisher tells watchers what has changed since it looked the last time.
type publisher struct {
	desk  *desk
	view  *arena.View
	last  []api.Pair      // what it took the last time
	lines []chan []Change // of each watcher
}

// newPublisher is one that has taken nothing yet, beside the workers of a desk at which nobody has asked.
func newPublisher(d *desk, watchers int) *publisher {
	d.news = make(chan struct{}, 1)
	p := &publisher{desk: d, view: d.store.Memory().View(d.workers)}
	for range watchers {
		p.lines = append(p.lines, make(chan []Change))
	}
	return p
}

// publish sends what changes, till clients have ended, and what is there then.
func (p *publisher) publish() {
	for p.awaits() {
		if pairs, ok := p.picture(); ok {
			p.send(pairs)
		}
	}
	p.send(p.desk.store.Content())
	for _, line := range p.lines {
		close(line)
	}
}

// awaits waits till something was done since the last picture: another one ahead of that would tell nothing new, and would use up a stamp; false, if clients have ended.
func (p *publisher) awaits() bool {
	select {
	case <-p.desk.news:
		return true
	case <-p.desk.ended:
		return false
	}
}

// picture is all that is there, as a handle tells it that is let go again; false, if there was an error.
func (p *publisher) picture() ([]api.Pair, bool) {
	taken := tell(p.desk.store, p.view, api.Op{Kind: api.Snapshot})
	if taken.Errno != api.OK {
		return nil, false
	}
	all := tell(p.desk.store, p.view, api.Op{Kind: api.Range, Handle: taken.Handle, Lo: 0, Hi: math.MaxUint64})
	gone := tell(p.desk.store, p.view, api.Op{Kind: api.Release, Handle: taken.Handle})
	return all.Pairs, all.Errno == api.OK && gone.Errno == api.OK
}

// send sends each watcher what is other now than the last time, if anything is.
func (p *publisher) send(now []api.Pair) {
	batch := changes(p.last, now)
	p.last = now
	if len(batch) == 0 {
		return
	}
	for _, line := range p.lines {
		line <- append([]Change(nil), batch...)
	}
}

// changes are what makes of one map another, by rising keys; both are told by rising keys.
func changes(from, to []api.Pair) []Change {
	var l []Change
	for len(from) > 0 || len(to) > 0 {
		switch {
		case len(to) == 0 || len(from) > 0 && from[0].Key < to[0].Key:
			l = append(l, Change{Key: from[0].Key, Gone: true})
			from = from[1:]
		case len(from) == 0 || to[0].Key < from[0].Key:
			l = append(l, Change{Key: to[0].Key, Value: to[0].Value})
			to = to[1:]
		default:
			if from[0] != to[0] {
				l = append(l, Change{Key: to[0].Key, Value: to[0].Value})
			}
			from, to = from[1:], to[1:]
		}
	}
	return l
}
