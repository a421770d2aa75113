package explore

// sleepers tries few orders: who was tried sleeps, in what is tried next, till a step clashes with its own.
type sleepers struct {
	plan
	asleep []set // behind each beginning of the row
}

func (s *sleepers) come(w *world) {
	var asleep set
	if n := len(s.rows); n > 0 {
		last := w.last().move
		for thread := range (s.asleep[n-1] | s.rows[n-1].begun&^one(last.thread)).all {
			// As long as nothing clashes with the step of one that sleeps, that is what it was when it fell asleep.
			if !w.next(thread).clashes(last) {
				asleep |= one(thread)
			}
		}
	}
	s.asleep = append(s.asleep, asleep)
	s.want(w.able() &^ asleep)
}

func (s *sleepers) leave(w *world) {
	s.plan.leave(w)
	s.asleep = s.asleep[:len(s.asleep)-1]
}

// sure is nothing: where all sleep, a row ends that is no full run.
func (*sleepers) sure() int { return 0 }

// clashes tries a thread ahead of a step only where its next one clashes with that.
type clashes struct {
	plan
	steps index
}

func (c *clashes) come(w *world) {
	if n := len(w.steps); n > 0 {
		c.steps.add(n-1, w.last().move)
	}
	able := w.able()
	c.want(one(able.least()))
	for thread := range able.all {
		next := w.next(thread)
		for i := range c.steps.near(next) {
			if w.steps[i].thread != thread && w.steps[i].clashes(next) {
				c.wantToo(i, thread)
			}
		}
	}
}

func (c *clashes) leave(w *world) {
	c.plan.leave(w)
	if len(w.steps) > 0 {
		c.steps.remove(w.last().move)
	}
}
