package tally

import "sync/atomic"

// bell is for those that wait for something that others do. What they wait for is told by atomics; the bell only spares them to ask for it all the time, which would keep the others from doing it where cores are few.
type bell struct {
	heard atomic.Pointer[chan struct{}] // closed by the next strike; nil, if nobody listens
}

// await ends when ready tells true; till then it is asked again at each strike.
func (b *bell) await(ready func() bool) {
	for !ready() {
		heard := b.listen()
		// Asked once more: a strike ahead of the listening was not for this one.
		if ready() {
			return
		}
		<-heard
	}
}

// listen is a channel that the next strike closes.
func (b *bell) listen() <-chan struct{} {
	for {
		if heard := b.heard.Load(); heard != nil {
			return *heard
		}
		heard := make(chan struct{})
		if b.heard.CompareAndSwap(nil, &heard) {
			return heard
		}
	}
}

// strike lets all that listen ask again. It is struck behind what they wait for.
func (b *bell) strike() {
	// Looked at first: where nobody listens, a write would only be in the way of others.
	if b.heard.Load() == nil {
		return
	}
	if heard := b.heard.Swap(nil); heard != nil {
		close(*heard)
	}
}
