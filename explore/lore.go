package explore

import (
	"slices"

	"shutter/api"
	"shutter/script"
	"shutter/store"
)

// moment is a time in a call: ahead of one of its steps, or behind the last one. What a call does next hangs on what it was told by then and on nothing else; so it is found out once, and holds in whatever order the threads take steps.
type moment struct {
	known  bool       // it was found out what the next step asks for
	asks   api.Access // of no kind: for nothing
	ended  bool       // it is behind the last step, and this is what the call told:
	text   string
	handle uint64
}

// opening is a call that begins with a handle.
type opening struct {
	thread, index int
	handle        uint64
}

// reply is what the access that was asked for at a moment told.
type reply struct {
	moment int
	told   uint64
}

// lore is what was found out about a script's calls.
type lore struct {
	script  api.Script
	moments []moment
	first   map[opening]int // the moments at which calls begin
	behind  map[reply]int   // the moments that come next
}

func newLore(s api.Script) *lore {
	return &lore{script: s, first: map[opening]int{}, behind: map[reply]int{}}
}

// firstOf is the moment at which a call begins.
func (l *lore) firstOf(o opening) int {
	return placeIn(l.first, o, l.add)
}

// add is the number of a moment of which nothing is known.
func (l *lore) add() int {
	l.moments = append(l.moments, moment{})
	return len(l.moments) - 1
}

// placeIn is the number that stands in a map, or else a new one, which stands there from then on.
func placeIn[K comparable](m map[K]int, key K, add func() int) int {
	number, ok := m[key]
	if !ok {
		number = add()
		m[key] = number
	}
	return number
}

// askedFor is an access without what it told.
func askedFor(a api.Access) api.Access {
	a.Got, a.Ok = 0, false
	if a.Kind == api.Alloc {
		a.Addr = 0
	}
	return a
}

// toldBy is what an access told.
func toldBy(a api.Access) uint64 {
	switch {
	case a.Kind == api.Alloc:
		return a.Addr
	case a.Ok:
		return 1
	}
	return a.Got
}

// stand is how far a thread has come.
type stand struct {
	index   int  // of the call that is pending, or else of the one that begins next
	pending bool // and it is at this moment:
	moment  int
}

// leastAhead is how many steps, at least, a thread is let go on when it is to be found out what it does: what it does next is often asked then, too.
const leastAhead = 64

// learn does the script by a row of picks, and lets a thread go on alone then, to find out what it does from its stand on.
func (l *lore) learn(row []int, thread int, at stand) {
	s := l.script
	s.Picks = goOn(row, thread)
	r, _ := store.Run(s)
	own := didsOf(r, thread)
	for step := len(row); step < len(s.Picks) && at.index < len(own); step++ {
		d := own[at.index]
		if !at.pending {
			at.moment = l.firstOf(opening{thread, at.index, d.Op.Handle})
		}
		at.moment = l.note(at.moment, accessAt(r, step))
		at.pending = d.Span.To != step
		if !at.pending {
			l.moments[at.moment] = moment{ended: true, text: script.PrintAnswer(d.Op.Kind, d.Answer), handle: d.Answer.Handle}
			at.index++
		}
	}
}

// goOn is a row, and behind it about as many picks of a thread.
func goOn(row []int, thread int) []int {
	more := min(len(row)+leastAhead, api.MaxPicks-len(row))
	return slices.Concat(row, slices.Repeat([]int{thread}, more))
}

// didsOf are a thread's, by their numbers.
func didsOf(r api.Result, thread int) []api.Did {
	var own []api.Did
	for _, d := range r.Dids {
		if d.Span.Thread == thread {
			own = append(own, d)
		}
	}
	return own
}

// accessAt is the one that was made at a step; of no kind, if none was.
func accessAt(r api.Result, step int) api.Access {
	i, ok := slices.BinarySearch(r.Steps, step)
	if !ok {
		return api.Access{}
	}
	return r.Trace[i]
}

// note writes down what was asked for at a moment, and is the moment that comes next.
func (l *lore) note(now int, made api.Access) int {
	l.moments[now].known = true
	l.moments[now].asks = askedFor(made)
	return placeIn(l.behind, reply{now, toldBy(made)}, l.add)
}
