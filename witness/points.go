package witness

import (
	"shutter/api"
)

// Ranks of what is done at one step: a change, or a picture; and behind these who saw it.
const (
	rankChange = 0
	rankLook   = 1
)

// none is the number of no Did, and of no step.
const none = -1

// doings is what a Did's accesses tell of it.
type doings struct {
	installed bool
	read      int // of the version that it installed last: the step at which its stamp was read
	look      int // by its last Load of an object: when it was so, as it told
	clocked   bool
	clock     uint64 // what its last Load of the camera told
}

// points are when the Dids can be said to have been done.
func (f *film) points() []Point {
	turns := f.turns()
	var l []Point
	for i, at := range f.doings() {
		l = append(l, pointOf(f.Dids[i], at, turns))
	}
	return l
}

// turns has, by stamps, the step at which the camera was turned on from one first.
func (f *film) turns() map[uint64]int {
	l := map[uint64]int{}
	for i, a := range f.Trace {
		if !done(a) || a.Addr != cameraCell {
			continue
		}
		if _, known := l[a.A]; !known {
			l[a.A] = f.Steps[i]
		}
	}
	return l
}

// doings are those of each Did.
func (f *film) doings() []doings {
	l := make([]doings, len(f.Dids))
	for i := range l {
		l[i].look = none
	}
	versions := f.stamps()
	latest := map[uint64]int{} // by addresses: the latest step at which the stamp was read of a version installed there
	ownerOf := f.owners()
	for i, a := range f.Trace {
		at := &doings{} // nobody's
		if owner := ownerOf(i); owner != none {
			at = &l[owner]
		}
		if readsCamera(a) {
			at.clocked, at.clock = true, a.Got
		}
		if f.looks(i) {
			at.look = max(f.Steps[i], latest[a.Got])
		}
		if f.installs(i) {
			v := versions[0]
			versions = versions[1:]
			latest[v.Version] = max(latest[v.Version], v.Read)
			at.installed, at.read = true, v.Read
		}
	}
	return l
}

// owners answers a function that tells, of each access in turn, which Did's it is.
func (f *film) owners() func(number int) int {
	left := map[int][]int{} // of each thread: its Dids that have not returned ahead of the last access of it
	for i, d := range f.Dids {
		left[d.Span.Thread] = append(left[d.Span.Thread], i)
	}
	return func(number int) int {
		thread, step := f.Trace[number].Thread, f.Steps[number]
		l := left[thread]
		for len(l) > 0 && returnedAhead(f.Dids[l[0]], step) {
			l = l[1:]
		}
		left[thread] = l
		if len(l) == 0 || f.Dids[l[0]].Span.From > step {
			return none
		}
		return l[0]
	}
}

func pending(d api.Did) bool {
	return d.Span.To < 0
}

func returnedAhead(d api.Did, step int) bool {
	return !pending(d) && d.Span.To < step
}

// pointOf is the point of a Did.
func pointOf(d api.Did, at doings, turns map[uint64]int) Point {
	switch {
	case at.installed && at.read == unread:
		return Point{}
	case at.installed:
		return Point{at.read, rankChange, true}
	case pending(d):
		return Point{}
	case d.Answer.Errno != api.OK:
		return Point{d.Span.To, rankLook, true}
	}
	switch d.Op.Kind {
	case api.Get, api.Put, api.Delete, api.Swap:
		if at.look != none {
			return Point{at.look, rankLook, true}
		}
	case api.Snapshot:
		if step, ok := turns[at.clock]; ok && at.clocked {
			return Point{step, rankChange, true}
		}
		return Point{d.Span.To, rankChange, true}
	case api.Release:
		return Point{d.Span.To, rankLook, true}
	}
	return Point{d.Span.From, rankLook, true}
}
