package explore

import (
	"math/bits"

	"shutter/api"
)

// set is some of the threads: a bit for each.
type set uint64

// one is the set of one thread.
func one(thread int) set {
	return 1 << thread
}

// least is the least thread of a set that is not empty.
func (s set) least() int {
	return bits.TrailingZeros64(uint64(s))
}

// all ranges over the threads, the least first.
func (s set) all(yield func(thread int) bool) {
	for s != 0 && yield(s.least()) {
		s &^= one(s.least())
	}
}

// count is how many threads these are.
func (s set) count() int {
	return bits.OnesCount64(uint64(s))
}

// search is a kind of trying: it says who is tried behind which row.
type search interface {
	come(w *world)     // to a row that is not full
	next() (int, bool) // the thread that is tried next behind the last row that was come to and not left
	leave(w *world)    // that row: all that was to be tried behind it was tried
	sure() int         // how many runs there will be at least, as far as that is to be told ahead
}

// try comes to full runs, and tells of each; it stops when that answers false, when there will be too many, or when a row gets longer than a script may be. It tells whether it was not stopped.
func try(w *world, kind search, full func() bool) bool {
	var down func() bool
	down = func() bool {
		if w.able() == 0 {
			return full()
		}
		if len(w.picks) == api.MaxPicks {
			return false
		}
		kind.come(w)
		if kind.sure() > api.MaxRuns {
			return false
		}
		for thread, ok := kind.next(); ok; thread, ok = kind.next() {
			w.take(thread)
			if !down() {
				return false
			}
			w.back()
		}
		kind.leave(w)
		return true
	}
	return down()
}

// tries is who is to be tried behind a row, and who has been, or is by now.
type tries struct{ wanted, begun set }

// plan is the tries behind each beginning of a row, the whole row too: what all kinds of searches have.
type plan struct {
	rows []tries
	more int // runs beside the first: behind each row one for each thread to be tried there but one
}

// want lets a row be come to, with those that are to be tried behind it.
func (p *plan) want(s set) {
	p.rows = append(p.rows, tries{wanted: s})
	p.more += s.count() - 1
}

// wantToo lets a thread be tried, too, behind a beginning of the row.
func (p *plan) wantToo(row, thread int) {
	if p.rows[row].wanted&one(thread) == 0 {
		p.rows[row].wanted |= one(thread)
		p.more++
	}
}

// sure holds where each row that is come to goes on to a full run.
func (p *plan) sure() int {
	return p.more + 1
}

func (p *plan) next() (int, bool) {
	row := &p.rows[len(p.rows)-1]
	left := row.wanted &^ row.begun
	if left == 0 {
		return 0, false
	}
	row.begun |= one(left.least())
	return left.least(), true
}

func (p *plan) leave(*world) {
	p.rows = p.rows[:len(p.rows)-1]
}

// every tries all orders.
type every struct{ plan }

func (e *every) come(w *world) {
	e.want(w.able())
}

// inOrder tries all orders for the sake of the first ones, however many there are.
type inOrder struct{ every }

func (*inOrder) sure() int { return 0 }

// bounded tries all orders with so many switches at most.
type bounded struct {
	plan
	most     int
	switches []int // of each beginning of the row
}

func (b *bounded) come(w *world) {
	n := len(w.steps)
	count, wanted := 0, w.able()
	if n > 0 {
		count = b.switches[n-1]
	}
	if n > 1 && isSwitch(&w.steps[n-2], w.last()) {
		count++
	}
	if n > 0 && !w.last().returns && count == b.most {
		wanted = one(w.last().thread)
	}
	b.switches = append(b.switches, count)
	b.want(wanted)
}

// isSwitch tells whether a step is one, by the step ahead of it.
func isSwitch(ahead, step *taken) bool {
	return step.thread != ahead.thread && !ahead.returns
}

func (b *bounded) leave(w *world) {
	b.plan.leave(w)
	b.switches = b.switches[:len(b.switches)-1]
}
