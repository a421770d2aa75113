package explore

import (
	"shutter/api"
	"shutter/store"
)

// thread is a thread of a script.
type thread struct {
	ops []api.Op
	stand
	ends []ending // of its calls that have returned
}

// ending is a call's that has returned: the moment behind its last step, and the number of the tale that its thread has told by then.
type ending struct{ moment, tale int }

// tale is what the calls of a thread have told: the number of the tale that the call ahead of the last one ended, 0 if there is none, and what the last one told. By their numbers two tales are told apart, however long they are.
type tale struct {
	ahead int
	last  string
}

// tales are the numbers of what all threads have told; 0, where that is nothing.
type tales [api.MaxThreads]int

func (t *thread) isDone() bool {
	return t.index >= len(t.ops)
}

// tale is the number of what the thread has told.
func (t *thread) tale() int {
	if len(t.ends) == 0 {
		return 0
	}
	return t.ends[len(t.ends)-1].tale
}

// taken is a step that was taken, and what is needed to take it back.
type taken struct {
	move
	stood   stand  // its thread, ahead of it
	was     uint64 // in its cell, ahead of it
	returns bool
}

// world is a script behind a row of steps.
type world struct {
	lore    *lore
	memory  cells
	threads []thread
	numbers map[tale]int
	picks   []int
	steps   []taken
}

// newWorld is a script, one that store.Run takes, ahead of its first step.
func newWorld(s api.Script) *world {
	empty, _ := store.New(s.Config)
	w := &world{lore: newLore(s), memory: cellsOf(empty.Memory()), numbers: map[tale]int{}}
	for _, ops := range s.Threads {
		w.threads = append(w.threads, thread{ops: ops})
	}
	return w
}

// able are the threads that have a call pending or left.
func (w *world) able() set {
	var s set
	for i := range w.threads {
		if !w.threads[i].isDone() {
			s |= one(i)
		}
	}
	return s
}

// last is the last step that was taken.
func (w *world) last() *taken {
	return &w.steps[len(w.steps)-1]
}

// now is the moment at which an able thread is, when what it asks for has been found out.
func (w *world) now(number int) int {
	t := &w.threads[number]
	now := t.moment
	if !t.pending {
		now = w.lore.firstOf(opening{number, t.index, w.handleOf(t.ops[t.index])})
	}
	if !w.lore.moments[now].known {
		w.lore.learn(w.picks, number, t.stand)
	}
	return now
}

// handleOf is an operation's, if it begins now.
func (w *world) handleOf(op api.Op) uint64 {
	ref := op.Ref
	if !ref.Set {
		return op.Handle
	}
	if ref.Thread < 0 || ref.Thread >= len(w.threads) {
		return 0
	}
	ends := w.threads[ref.Thread].ends
	if ref.Index < 0 || ref.Index >= len(ends) {
		return 0
	}
	return w.lore.moments[ends[ref.Index].moment].handle
}

// next is the step that an able thread would take now.
func (w *world) next(number int) move {
	return w.moveAt(number, w.now(number))
}

// moveAt is the step that a thread would take, at the moment at which it is.
func (w *world) moveAt(number, now int) move {
	t := &w.threads[number]
	m := move{thread: number, access: w.memory.would(w.lore.moments[now].asks)}
	if !t.pending {
		m.ref = t.ops[t.index].Ref
	}
	return m
}

// take lets an able thread take its step.
func (w *world) take(number int) {
	t, now := &w.threads[number], w.now(number)
	step := taken{move: w.moveAt(number, now), stood: t.stand}
	t.moment = w.behind(number, reply{now, toldBy(step.access)})
	step.returns = w.lore.moments[t.moment].ended
	t.pending = !step.returns
	if step.returns {
		w.end(t)
	}
	step.was = w.memory.do(step.access)
	w.picks = append(w.picks, number)
	w.steps = append(w.steps, step)
}

// behind is the moment at which a thread is behind its next step, if that is told so.
func (w *world) behind(number int, r reply) int {
	moment, known := w.lore.behind[r]
	if !known {
		w.lore.learn(w.picks, number, w.threads[number].stand)
		moment = w.lore.behind[r]
	}
	return moment
}

// end lets the call return at whose last moment a thread is.
func (w *world) end(t *thread) {
	told := tale{t.tale(), w.lore.moments[t.moment].text}
	number := placeIn(w.numbers, told, func() int { return len(w.numbers) + 1 })
	t.ends = append(t.ends, ending{t.moment, number})
	t.index++
}

// back takes the last step back.
func (w *world) back() {
	last := w.last()
	w.memory.undo(last.access, last.was)
	t := &w.threads[last.thread]
	t.stand = last.stood
	t.ends = t.ends[:t.index]
	w.picks = w.picks[:len(w.picks)-1]
	w.steps = w.steps[:len(w.steps)-1]
}

// tales are what was told, by numbers.
func (w *world) tales() tales {
	var all tales
	for i := range w.threads {
		all[i] = w.threads[i].tale()
	}
	return all
}

// outcome is what was told, as a text, in a full run.
func (w *world) outcome() string {
	return textOf(w.lore.script.Threads, func(thread, index int) string {
		return w.lore.moments[w.threads[thread].ends[index].moment].text
	})
}
