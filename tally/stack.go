package tally

import "sync/atomic"

// stack is things one upon the other, after Treiber.
type stack[T any] struct {
	top atomic.Pointer[item[T]]
}

// item never changes once it lies there, and none comes back: so who finds the same one on top again knows what lies below it.
type item[T any] struct {
	value T
	below *item[T]
}

func (s *stack[T]) push(value T) {
	mine := &item[T]{value: value, below: s.top.Load()}
	for !s.top.CompareAndSwap(mine.below, mine) {
		mine.below = s.top.Load()
	}
}

// pop is what lay on top; false, if there is nothing.
func (s *stack[T]) pop() (T, bool) {
	for {
		top := s.top.Load()
		if top == nil {
			var none T
			return none, false
		}
		if s.top.CompareAndSwap(top, top.below) {
			return top.value, true
		}
	}
}
