package live

import (
	"sync"

	"shutter/crew"
)

// round is the operations, one of each thread that has one, that begin together.
type round struct {
	begin    chan struct{} // closed, when they may
	returned sync.WaitGroup
}

// rounds are as many as the longest thread has operations.
func (r *free) rounds() []*round {
	var l []*round
	for _, t := range r.threads {
		for index := range t.ops {
			if index == len(l) {
				l = append(l, &round{begin: make(chan struct{})})
			}
			l[index].returned.Add(1)
		}
	}
	return l
}

// doRounds lets all threads do their operations, round by round.
func (r *free) doRounds() {
	rounds := r.rounds()
	all := crew.Begin(len(r.threads), func(i int) {
		r.threads[i].doByRounds(rounds)
	})
	for _, now := range rounds {
		close(now.begin)
		now.returned.Wait()
	}
	all.Wait()
}

func (t *thread) doByRounds(rounds []*round) {
	for index := range t.ops {
		<-rounds[index].begin
		t.do(index)
		rounds[index].returned.Done()
	}
}
