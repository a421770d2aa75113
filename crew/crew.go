// Package crew lets goroutines work, and waits for them: what the layers that begin goroutines have in common.
package crew

import "sync"

// Begin lets so many goroutines work, each with its number: who waits for the group waits for all.
func Begin(count int, work func(i int)) *sync.WaitGroup {
	group := &sync.WaitGroup{}
	group.Add(count)
	for i := range count {
		go func() {
			defer group.Done()
			work(i)
		}()
	}
	return group
}

// Together is likewise, and ends when all have ended. None begins till all are there: else the first ones would have ended by then, and nobody would have got between them.
func Together(count int, work func(i int)) {
	begin := make(chan struct{})
	all := Begin(count, func(i int) {
		<-begin
		work(i)
	})
	close(begin)
	all.Wait()
}
