package lin

import (
	"iter"
	"math/bits"
	"slices"

	"shutter/api"
	"shutter/hist"
	"shutter/model"
)

// set is numbers of operations, a bit each.
type set uint32

func only(number int) set {
	return 1 << number
}

func (s set) has(number int) bool {
	return s&only(number) != 0
}

// numbers yields those of the set, rising.
func (s set) numbers() iter.Seq[int] {
	return func(yield func(int) bool) {
		for rest := s; rest != 0; rest &= rest - 1 {
			if !yield(bits.TrailingZeros32(uint32(rest))) {
				return
			}
		}
	}
}

// search is a history, and what of it hangs on what, so that the search need not try what can make no difference.
type search struct {
	dids      []api.Did
	returned  set
	ahead     []set          // of each operation those that go ahead of it
	ofKeys    map[uint64]set // of each key those whose answers hang on its value
	ofHandles map[uint64]set // of each handle those whose answers hang on whether it holds, and what
	snapshots map[uint64]set // of each handle the Snapshots that told it
	lookers   []set          // of each operation those others whose answers hang on what it may change
	rivals    []set          // of each operation those that write its key and have not returned
}

// point is how far a search has come.
type point struct {
	left  set          // what was not done yet
	fresh set          // what was done and had not returned, and at whose change nobody has looked since
	store *model.Model // what all that was done has left
}

// newSearch is of at most as many operations as a set has.
func newSearch(l []api.Did) *search {
	s := &search{dids: l, ofKeys: map[uint64]set{}, ofHandles: map[uint64]set{}, snapshots: map[uint64]set{}}
	for i, d := range l {
		if !pending(d) {
			s.returned |= only(i)
			s.noteLooker(i, d)
		}
	}
	for i, d := range l {
		var ahead, rivals set
		for j, other := range l {
			if hist.Ahead(other.Span, d.Span) {
				ahead |= only(j)
			}
			if pending(other) && ofKey(d.Op) && writes(other.Op) && other.Op.Key == d.Op.Key {
				rivals |= only(j)
			}
		}
		s.ahead = append(s.ahead, ahead)
		s.rivals = append(s.rivals, rivals)
		s.lookers = append(s.lookers, s.looking(d)&^only(i))
	}
	return s
}

// noteLooker notes what the answer of an operation that has returned hangs on.
func (s *search) noteLooker(number int, d api.Did) {
	switch {
	case ofKey(d.Op):
		if d.Answer.Errno == api.OK {
			s.ofKeys[d.Op.Key] |= only(number)
		}
	case d.Op.Kind == api.Snapshot:
		if d.Answer.Errno == api.OK {
			s.ofHandles[d.Answer.Handle] |= only(number)
			s.snapshots[d.Answer.Handle] |= only(number)
			s.noteSnapshot(number, d.Answer.Handle)
		}
	case d.Op.Kind == api.Release || asks(d.Op):
		s.ofHandles[d.Op.Handle] |= only(number)
	}
}

// noteSnapshot notes which keys some query that has returned asks the handle of a Snapshot for.
func (s *search) noteSnapshot(number int, handle uint64) {
	for _, query := range s.dids {
		if pending(query) || !asks(query.Op) || query.Op.Handle != handle {
			continue
		}
		for _, d := range s.dids {
			if writes(d.Op) && asksFor(query.Op, d.Op.Key) {
				s.ofKeys[d.Op.Key] |= only(number)
			}
		}
	}
}

// looking are those whose answers hang on what an operation may change.
func (s *search) looking(d api.Did) set {
	switch {
	case !pending(d) && (d.Answer.Errno != api.OK || d.Op.Kind == api.Swap && !d.Answer.Done):
		return 0
	case writes(d.Op):
		return s.ofKeys[d.Op.Key]
	case d.Op.Kind == api.Release:
		return s.ofHandles[d.Op.Handle]
	case d.Op.Kind == api.Snapshot && !pending(d):
		return s.ofHandles[d.Answer.Handle]
	}
	return 0
}

// writes tells whether an operation may change a key's value.
func writes(op api.Op) bool {
	return op.Kind == api.Put || op.Kind == api.Delete || op.Kind == api.Swap
}

// asks tells whether an operation asks what a handle holds.
func asks(op api.Op) bool {
	return op.Kind == api.MultiGet || op.Kind == api.Range || op.Kind == api.Count
}

// asksFor tells whether a query asks for a key.
func asksFor(op api.Op, key uint64) bool {
	if op.Kind == api.MultiGet {
		return slices.Contains(op.Keys, key)
	}
	return op.Lo <= key && key <= op.Hi
}

// begin is the point at which nothing was done.
func (s *search) begin(m *model.Model) point {
	return point{left: only(len(s.dids)) - 1, store: m}
}

// atEnd tells whether all that returned were done.
func (s *search) atEnd(p point) bool {
	return p.left&s.returned == 0
}

// first yields those that may be done next, as far as their spans say, rising.
func (s *search) first(left set) iter.Seq[int] {
	return func(yield func(int) bool) {
		for i := range left.numbers() {
			if s.ahead[i]&left == 0 && !yield(i) {
				return
			}
		}
	}
}

// after is the point behind an operation that is done at another one; false: it may not tell then what it told.
func (s *search) after(p point, number int) (point, bool) {
	store := p.store.Fork()
	if !do(store, s.dids[number]) {
		return point{}, false
	}
	return point{left: p.left &^ only(number), fresh: p.fresh, store: store}, true
}

// shown tells whether an order shows the history.
func (s *search) shown(m *model.Model) bool {
	return s.ender()(s.begin(m))
}

// least is the least order that shows the history; false: none does.
func (s *search) least(m *model.Model) ([]int, bool) {
	ends := s.ender()
	p := s.begin(m)
	if !ends(p) {
		return nil, false
	}
	var order []int
	for !s.atEnd(p) {
		number, next := s.leastWay(p, ends)
		order = append(order, number)
		p = next
	}
	return order, true
}

// leastWay is the first operation behind which a point that leads to an end still does, and the point there.
func (s *search) leastWay(p point, ends func(point) bool) (int, point) {
	for i := range s.first(p.left) {
		if next, may := s.after(p, i); may && ends(next) {
			return i, next
		}
	}
	return 0, point{}
}

// count is how many orders show the history.
func (s *search) count(m *model.Model) int {
	counts := map[string]int{} // of each state in which a point was
	var count func(p point) int
	count = func(p point) int {
		state := s.state(p)
		if n, known := counts[state]; known {
			return n
		}
		n := 0
		if s.atEnd(p) {
			n = 1
		}
		for i := range s.first(p.left) {
			if next, may := s.after(p, i); may {
				n += count(next)
			}
		}
		counts[state] = n
		return n
	}
	return count(s.begin(m))
}

// ender is a function that tells whether a point leads to an end.
func (s *search) ender() func(point) bool {
	looked := map[string]struct{}{} // the states of points that lead to none
	var ends func(p point) bool
	ends = func(p point) bool {
		if s.atEnd(p) {
			return true
		}
		if s.lost(p) {
			return false
		}
		state := s.state(p)
		if _, known := looked[state]; known {
			return false
		}
		for next := range s.ways(p) {
			if ends(next) {
				return true
			}
		}
		looked[state] = struct{}{}
		return false
	}
	return ends
}

// lost tells whether a query that is left can tell no more what it told: its handle does not hold that, and no Snapshot that tells the handle is left.
func (s *search) lost(p point) bool {
	for i := range (p.left & s.returned).numbers() {
		d := s.dids[i]
		if asks(d.Op) && d.Answer.Errno == api.OK && p.left&s.snapshots[d.Op.Handle] == 0 && !p.store.Take(d.Op, d.Answer) {
			return true
		}
	}
	return false
}

// ways yields points that a point leads to: if it leads to an end, one of these does.
func (s *search) ways(p point) iter.Seq[point] {
	return func(yield func(point) bool) {
		if next, is := s.quiet(p); is {
			yield(next)
			return
		}
		for i := range s.first(p.left) {
			next, may := s.useful(p, i)
			if may && !yield(next) {
				return
			}
		}
	}
}

// quiet is the point behind one that has returned, may tell now what it told, and at whose change nobody looks that is left: an order that does it later may as well do it now.
func (s *search) quiet(p point) (point, bool) {
	for i := range s.first(p.left & s.returned) {
		if s.lookers[i]&p.left != 0 {
			continue
		}
		if next, may := s.after(p, i); may {
			next.fresh = s.unseen(p.fresh, i)
			return next, true
		}
	}
	return point{}, false
}

// useful is the point behind an operation, if it may be done now. One that has not returned may be left out: where it changes nothing, or what nobody looks at, or is a write that takes the place of another such one's, at which nobody has looked: then that one may be left out.
func (s *search) useful(p point, number int) (point, bool) {
	if s.returned.has(number) {
		next, may := s.after(p, number)
		next.fresh = s.unseen(p.fresh, number)
		return next, may
	}
	overwrites := p.fresh&s.rivals[number] != 0 && s.dids[number].Op.Kind != api.Swap
	if overwrites || s.lookers[number]&p.left == 0 {
		return point{}, false
	}
	next, may := s.after(p, number)
	if !may || next.store.Same(p.store) {
		return point{}, false
	}
	if writes(s.dids[number].Op) {
		next.fresh |= only(number)
	}
	return next, true
}

// unseen are those of the fresh ones whose changes an operation does not look at.
func (s *search) unseen(fresh set, number int) set {
	for i := range fresh.numbers() {
		if s.lookers[i].has(number) {
			fresh &^= only(i)
		}
	}
	return fresh
}

// state is a text that points have in common only if the same orders lead on from them: what is left, and what those that are left may be told.
func (s *search) state(p point) string {
	text := appendNumber(nil, uint64(p.left)<<32|uint64(p.fresh))
	for i := range (p.left & s.returned).numbers() {
		text = s.appendHandle(text, p.store, s.dids[i])
	}
	for _, pair := range p.store.Content() {
		if s.ofKeys[pair.Key]&p.left != 0 {
			text = appendNumber(text, pair.Key)
			text = appendNumber(text, pair.Value)
		}
	}
	return string(text)
}

// appendHandle writes down of an operation of a handle what it may be told of that now. Of a query that is whether it may tell what it told, and nothing else of what the handle holds: that stays till its Release.
func (s *search) appendHandle(text []byte, m *model.Model, d api.Did) []byte {
	var is bool
	switch {
	case asks(d.Op):
		is = m.Take(d.Op, d.Answer)
	case d.Op.Kind == api.Release:
		_, is = m.Held(d.Op.Handle)
	case d.Op.Kind == api.Snapshot:
		_, is = m.Held(d.Answer.Handle)
	default:
		return text
	}
	if is {
		return append(text, 1)
	}
	return append(text, 0)
}

// appendNumber writes down a number in eight bytes.
func appendNumber(text []byte, n uint64) []byte {
	for range 8 {
		text = append(text, byte(n))
		n >>= 8
	}
	return text
}
