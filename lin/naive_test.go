package lin_test

import (
	"fmt"
	"math/rand"
	"slices"
	"strings"
	"testing"

	"shutter/api"
	"shutter/model"
)

// Operations, in short.
func get(key uint64) api.Op        { return api.Op{Kind: api.Get, Key: key} }
func put(key, value uint64) api.Op { return api.Op{Kind: api.Put, Key: key, Value: value} }
func remove(key uint64) api.Op     { return api.Op{Kind: api.Delete, Key: key} }
func swap(key, old, value uint64) api.Op {
	return api.Op{Kind: api.Swap, Key: key, Old: old, Value: value}
}
func snapshot() api.Op             { return api.Op{Kind: api.Snapshot} }
func release(handle uint64) api.Op { return api.Op{Kind: api.Release, Handle: handle} }
func collect() api.Op              { return api.Op{Kind: api.Collect} }
func multiGet(handle uint64, keys ...uint64) api.Op {
	return api.Op{Kind: api.MultiGet, Handle: handle, Keys: keys}
}
func inRange(handle, lo, hi uint64) api.Op {
	return api.Op{Kind: api.Range, Handle: handle, Lo: lo, Hi: hi}
}
func count(handle, lo, hi uint64) api.Op {
	return api.Op{Kind: api.Count, Handle: handle, Lo: lo, Hi: hi}
}

// Answers, in short.
func none() api.Answer                  { return api.Answer{} }
func found(value uint64) api.Answer     { return api.Answer{Found: true, Value: value} }
func swapped(value uint64) api.Answer   { return api.Answer{Found: true, Value: value, Done: true} }
func told(handle uint64) api.Answer     { return api.Answer{Handle: handle} }
func failed(errno api.Errno) api.Answer { return api.Answer{Errno: errno} }
func counted(n uint64) api.Answer       { return api.Answer{Count: n} }
func paired(numbers ...uint64) api.Answer {
	var a api.Answer
	for i := 0; i < len(numbers); i += 2 {
		a.Pairs = append(a.Pairs, api.Pair{Key: numbers[i], Value: numbers[i+1]})
	}
	return a
}

// did is an operation of a thread's first call, from a step to a step.
func did(thread, from, to int, op api.Op, a api.Answer) api.Did {
	return didAt(thread, 0, from, to, op, a)
}

// didAt is likewise of the call with the index.
func didAt(thread, index, from, to int, op api.Op, a api.Answer) api.Did {
	return api.Did{Span: api.Span{Thread: thread, Index: index, From: from, To: to}, Op: op, Answer: a}
}

// never is a To of an operation that has not returned.
const never = -1

// together are operations of a thread each, all overlapping.
type together []api.Did

func (l *together) returned(op api.Op, a api.Answer) {
	n := len(*l)
	*l = append(*l, did(n, n, 1000+n, op, a))
}

func (l *together) pending(op api.Op) {
	n := len(*l)
	*l = append(*l, did(n, n, never, op, none()))
}

// inTurn are operations one behind the other, of one thread, from the empty store on, with what they tell; Snapshots tell 1, 2, ..
func inTurn(ops ...api.Op) []api.Did {
	m, _ := model.New(4)
	var l []api.Did
	handle := uint64(0)
	for i, op := range ops {
		if op.Kind == api.Snapshot {
			handle++
		}
		l = append(l, didAt(0, i, 2*i, 2*i+1, op, m.Do(op, handle)))
	}
	return l
}

// keeps is by the document's words whether an order has all that returned, each number once, none ahead of one that goes ahead of it.
func keeps(l []api.Did, order []int) bool {
	for place, number := range order {
		if number < 0 || number >= len(l) || slices.Contains(order[:place], number) {
			return false
		}
		for _, ahead := range order[:place] {
			if to := l[number].Span.To; to >= 0 && to < l[ahead].Span.From {
				return false
			}
		}
	}
	for number, d := range l {
		if d.Span.To >= 0 && !slices.Contains(order, number) {
			return false
		}
	}
	return true
}

// shows is by the document's words whether an order shows a history.
func shows(l []api.Did, order []int, multi int) bool {
	if !keeps(l, order) {
		return false
	}
	m, _ := model.New(multi)
	for _, number := range order {
		if !next(m, l[number]) {
			return false
		}
	}
	return true
}

// next does an operation, if it may tell what it told.
func next(m *model.Model, d api.Did) bool {
	if d.Span.To < 0 {
		m.Do(d.Op, 0)
		return true
	}
	return m.Take(d.Op, d.Answer)
}

// orders yields all lists of some of n numbers, none twice, the least first.
func orders(n int) func(func([]int) bool) {
	return func(yield func([]int) bool) {
		var order []int
		var walk func() bool
		walk = func() bool {
			if !yield(slices.Clone(order)) {
				return false
			}
			for i := range n {
				if slices.Contains(order, i) {
					continue
				}
				order = append(order, i)
				if !walk() {
					return false
				}
				order = order[:len(order)-1]
			}
			return true
		}
		walk()
	}
}

// showing are all orders that show a history, the least first.
func showing(l []api.Did, multi int) [][]int {
	var all [][]int
	for order := range orders(len(l)) {
		if shows(l, order, multi) {
			all = append(all, order)
		}
	}
	return all
}

// plainFind is the least order that shows a history, by a search that leaves nothing out but whole stores that it has been at.
func plainFind(l []api.Did, multi int) ([]int, bool) {
	m, _ := model.New(multi)
	been := map[string]bool{}
	var walk func(order []int, m *model.Model) ([]int, bool)
	walk = func(order []int, m *model.Model) ([]int, bool) {
		if keeps(l, order) {
			return order, true
		}
		at := wholeState(l, order, m)
		if been[at] {
			return nil, false
		}
		been[at] = true
		for i, d := range l {
			if slices.Contains(order, i) || !mayComeNext(l, order, i) {
				continue
			}
			fork := m.Fork()
			if !next(fork, d) {
				continue
			}
			if found, ok := walk(append(slices.Clone(order), i), fork); ok {
				return found, true
			}
		}
		return nil, false
	}
	return walk(nil, m)
}

func mayComeNext(l []api.Did, order []int, number int) bool {
	for i, d := range l {
		if d.Span.To >= 0 && d.Span.To < l[number].Span.From && !slices.Contains(order, i) {
			return false
		}
	}
	return true
}

func wholeState(l []api.Did, order []int, m *model.Model) string {
	var text strings.Builder
	sorted := slices.Sorted(slices.Values(order))
	fmt.Fprint(&text, sorted, m.Content())
	for _, handle := range m.Handles() {
		held, _ := m.Held(handle)
		fmt.Fprint(&text, handle, held)
	}
	return text.String()
}

// wish is what a history that is drawn is made of.
type wish struct {
	calls   int
	threads int
	kinds   []api.OpKind
	keys    int // how many keys, values and handles there are
	values  int
	handles int
	pending int  // of a hundred operations how many do not return
	wrong   int  // of a hundred answers how many are others than told
	guesses bool // Snapshots tell any handle, not one that is not used
}

func allKinds() []api.OpKind {
	return []api.OpKind{api.Get, api.Put, api.Delete, api.Swap, api.Snapshot, api.Release, api.MultiGet, api.Range, api.Count, api.Collect, 0}
}

func fourKinds() []api.OpKind {
	return []api.OpKind{api.Get, api.Put, api.Delete, api.Swap}
}

// drawMulti is the multi of histories that are drawn.
const drawMulti = 2

// draw is a history: calls that begin, are done and return in an order that is drawn, some of them with a false answer.
func draw(r *rand.Rand, w wish) []api.Did {
	m, _ := model.New(drawMulti)
	var l []api.Did
	open := map[int]int{}  // of each thread the number of its call
	index := map[int]int{} // how many calls it has had
	done := map[int]bool{}
	for step := 0; step < 40*w.calls; step++ {
		thread := r.Intn(w.threads)
		number, isOpen := open[thread]
		switch {
		case !isOpen && len(l) < w.calls:
			open[thread] = len(l)
			l = append(l, didAt(thread, index[thread], step, never, drawOp(r, w), none()))
			index[thread]++
		case isOpen && !done[number]:
			l[number].Answer = drawAnswer(r, w, m, l[number].Op, uint64(number))
			done[number] = true
		case isOpen && r.Intn(100) >= w.pending:
			l[number].Span.To = step
			delete(open, thread)
		}
	}
	r.Shuffle(len(l), func(i, j int) {
		if l[i].Span.Thread != l[j].Span.Thread {
			l[i], l[j] = l[j], l[i]
		}
	})
	return reindexed(l)
}

// reindexed is by rising first steps, if a thread's calls do not stand in their order.
func reindexed(l []api.Did) []api.Did {
	at := map[int]int{}
	for _, d := range l {
		if d.Span.Index != at[d.Span.Thread] {
			slices.SortFunc(l, func(a, b api.Did) int { return a.Span.From - b.Span.From })
			return l
		}
		at[d.Span.Thread]++
	}
	return l
}

func drawOp(r *rand.Rand, w wish) api.Op {
	n := func(below int) uint64 { return uint64(r.Intn(below)) }
	op := api.Op{Kind: w.kinds[r.Intn(len(w.kinds))], Key: n(w.keys), Value: n(w.values), Old: n(w.values), Handle: n(w.handles + 1), Lo: n(w.keys), Hi: n(w.keys + 1)}
	for range r.Intn(drawMulti + 2) {
		op.Keys = append(op.Keys, n(w.keys))
	}
	return op
}

func drawAnswer(r *rand.Rand, w wish, m *model.Model, op api.Op, number uint64) api.Answer {
	handle := number%uint64(w.handles) + 1
	if w.guesses {
		handle = uint64(1 + r.Intn(w.handles))
	}
	if r.Intn(100) >= w.wrong {
		return m.Do(op, handle)
	}
	a := m.Fork().Do(op, handle)
	switch r.Intn(5) {
	case 0:
		a = failed([]api.Errno{api.ErrMemory, api.ErrSlot, api.ErrStamp, api.ErrStale, api.ErrHandle, api.ErrLong, api.ErrOp}[r.Intn(7)])
	case 1:
		a = found(uint64(r.Intn(w.values)))
		a.Done = r.Intn(2) == 0 && op.Kind == api.Swap
	case 2:
		a = m.Do(op, handle)
		a.Found = !a.Found
	case 3:
		a = m.Do(op, handle)
		a.Count++
	case 4:
		a = none()
	}
	return a
}

// drawWish is what a history of so many calls at most may be made of.
func drawWish(r *rand.Rand, calls int, kinds []api.OpKind) wish {
	return wish{
		calls:   1 + r.Intn(calls),
		threads: 1 + r.Intn(4),
		kinds:   kinds,
		keys:    1 + r.Intn(3),
		values:  1 + r.Intn(3),
		handles: 1 + r.Intn(3),
		pending: []int{0, 60, 90, 97}[r.Intn(4)],
		wrong:   []int{0, 10, 40}[r.Intn(3)],
		guesses: r.Intn(2) == 0,
	}
}

// copyOf is a history by itself.
func copyOf(l []api.Did) []api.Did {
	l = slices.Clone(l)
	for i := range l {
		l[i].Op.Keys = slices.Clone(l[i].Op.Keys)
		l[i].Answer.Pairs = slices.Clone(l[i].Answer.Pairs)
	}
	return l
}

// sameDids tells whether histories are the same, field by field.
func sameDids(a, b []api.Did) bool {
	return slices.EqualFunc(a, b, func(x, y api.Did) bool {
		return x.Span == y.Span && sameOps(x.Op, y.Op) && model.SameAnswer(x.Answer, y.Answer)
	})
}

func sameOps(a, b api.Op) bool {
	return a.Kind == b.Kind && a.Key == b.Key && a.Value == b.Value && a.Old == b.Old && a.Handle == b.Handle &&
		a.Ref == b.Ref && a.Lo == b.Lo && a.Hi == b.Hi && slices.Equal(a.Keys, b.Keys)
}

// text is a history as it is told of by tests.
func text(l []api.Did) string {
	var s strings.Builder
	for i, d := range l {
		fmt.Fprintf(&s, "\n%d: %d.%d %d-%d %+v %+v", i, d.Span.Thread, d.Span.Index, d.Span.From, d.Span.To, d.Op, d.Answer)
	}
	return s.String()
}

// The drawing draws what the tests need: histories that are shown and not, with operations that are pending, and overlapping ones.
func TestDraw(t *testing.T) {
	shown, not, pending, errors := 0, 0, 0, 0
	for seed := range int64(500) {
		r := rand.New(rand.NewSource(seed))
		l := draw(r, drawWish(r, 5, allKinds()))
		if _, ok := plainFind(l, drawMulti); ok {
			shown++
		} else {
			not++
		}
		for _, d := range l {
			if d.Span.To < 0 {
				pending++
			} else if d.Answer.Errno != api.OK {
				errors++
			}
		}
	}
	if shown < 100 || not < 50 || pending < 100 || errors < 50 {
		t.Error(shown, not, pending, errors)
	}
}
