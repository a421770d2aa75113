package crew_test

import (
	"slices"
	"sync"
	"sync/atomic"
	"testing"

	"shutter/crew"
)

// Each goroutine has its number, and all have ended when the group was waited for.
func TestBegin(t *testing.T) {
	for _, count := range []int{0, 1, 2, 64} {
		came := make([]int, count)
		crew.Begin(count, func(i int) { came[i]++ }).Wait()
		if !slices.Equal(came, slices.Repeat([]int{1}, count)) {
			t.Error(count, came)
		}
	}
}

// Begin does not wait for those that it began.
func TestBeginGoesOn(t *testing.T) {
	hold := make(chan struct{})
	all := crew.Begin(3, func(int) { <-hold })
	close(hold)
	all.Wait()
}

// Together ends when all have ended, and all are under way at one time: else they would wait for each other for ever.
func TestTogether(t *testing.T) {
	for _, count := range []int{0, 1, 2, 65} {
		came := make([]int, count)
		var others sync.WaitGroup
		others.Add(count)
		var ended atomic.Int64
		crew.Together(count, func(i int) {
			others.Done()
			others.Wait()
			came[i]++
			ended.Add(1)
		})
		if int(ended.Load()) != count || !slices.Equal(came, slices.Repeat([]int{1}, count)) {
			t.Error(count, came)
		}
	}
}
