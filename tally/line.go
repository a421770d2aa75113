package tally

import (
	"sync/atomic"

	"shutter/crew"
)

// line is what many put in, and one takes out: what was put in first comes first.
type line[T any] interface {
	put(value T)
	take() T // waits, where there is nothing
}

// passOn lets a goroutine for each list put it in, and one more take out till all is out: in which order it came.
func passOn[T any](l line[T], puts [][]T) []T {
	all := 0
	for _, values := range puts {
		all += len(values)
	}
	taker := len(puts)
	var came []T
	crew.Together(taker+1, func(i int) {
		if i == taker {
			for range all {
				came = append(came, l.take())
			}
			return
		}
		for _, value := range puts[i] {
			l.put(value)
		}
	})
	return came
}

// queue is a line without an end of its room, after Michael and Scott: links, each of which names the next one.
type queue[T any] struct {
	first *link[T]                // the one that was taken out last: of the taker alone
	last  atomic.Pointer[link[T]] // the last one, or one ahead of it
	came  bell
}

type link[T any] struct {
	value T
	next  atomic.Pointer[link[T]]
}

// newQueue begins with a link that counts as taken: so there is always one to put the next behind.
func newQueue[T any]() *queue[T] {
	q := &queue[T]{first: &link[T]{}}
	q.last.Store(q.first)
	return q
}

func (q *queue[T]) put(value T) {
	mine := &link[T]{value: value}
	for !q.putBehind(q.last.Load(), mine) {
	}
	q.came.strike()
}

// putBehind puts a link behind one that is the last; if it is not, last goes on to the next: whoever put that may have been stopped ahead of it.
func (q *queue[T]) putBehind(last, mine *link[T]) bool {
	if last.next.CompareAndSwap(nil, mine) {
		q.last.CompareAndSwap(last, mine)
		return true
	}
	q.last.CompareAndSwap(last, last.next.Load())
	return false
}

func (q *queue[T]) take() T {
	q.came.await(func() bool {
		return q.first.next.Load() != nil
	})
	q.first = q.first.next.Load()
	return q.first.value
}

// ring is a line of so many places, gone round: who puts in waits where they are full.
type ring[T any] struct {
	places []place[T]
	free   *gate // lets those in that have a place
	taken  int   // how many were taken out: of the taker alone
	came   bell
}

// place is in turn that of the one that was let in, and of the taker: full tells whose it is.
type place[T any] struct {
	value T
	full  atomic.Bool
}

func newRing[T any](places, putters int) *ring[T] {
	return &ring[T]{places: make([]place[T], places), free: newGate(places, putters)}
}

// at is the place of what is put in as number n.
func (r *ring[T]) at(n int) *place[T] {
	return &r.places[n%len(r.places)]
}

func (r *ring[T]) put(value T) {
	p := r.at(r.free.enter())
	p.value = value
	p.full.Store(true)
	r.came.strike()
}

func (r *ring[T]) take() T {
	p := r.at(r.taken)
	r.came.await(p.full.Load)
	value := p.value
	p.full.Store(false)
	r.taken++
	r.free.leave()
	return value
}
