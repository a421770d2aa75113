package tally

import "sync/atomic"

// gate lets in by tickets: so many at first, and one more for each that leaves.
type gate struct {
	tickets atomic.Int64 // how many were taken
	open    atomic.Int64 // the tickets below it are let in
	bells   []bell
}

// newGate has a bell for each goroutine that may wait. Tickets that wait follow one another, and are no more than these: so whoever may enter is woken, and hardly ever another one with it.
func newGate(permits, goroutines int) *gate {
	g := &gate{bells: make([]bell, goroutines)}
	g.open.Store(int64(permits))
	return g
}

func (g *gate) bell(ticket int64) *bell {
	return &g.bells[ticket%int64(len(g.bells))]
}

// enter waits till there is room; it tells the ticket.
func (g *gate) enter() int {
	ticket := g.tickets.Add(1) - 1
	g.bell(ticket).await(func() bool {
		return ticket < g.open.Load()
	})
	return int(ticket)
}

func (g *gate) leave() {
	ticket := g.open.Add(1) - 1
	g.bell(ticket).strike()
}

// room is where so many may be at one time.
type room struct {
	door   *gate
	in     atomic.Int64
	most   greatest
	visits atomic.Int64
}

// newRoom lets no more in than there are, which changes nothing, and keeps the door's numbers small.
func newRoom(goroutines, permits int) *room {
	return &room{door: newGate(min(permits, goroutines), goroutines)}
}

func (r *room) visit() {
	r.door.enter()
	r.most.offer(uint64(r.in.Add(1)))
	r.visits.Add(1)
	r.in.Add(-1)
	r.door.leave()
}

// meeting is for goroutines that wait for each other, as often as they like.
type meeting struct {
	count int64
	came  atomic.Int64 // how many came, to all meetings
	all   bell
}

func newMeeting(goroutines int) *meeting {
	return &meeting{count: int64(goroutines)}
}

// meet ends when all have come to this meeting. Nobody comes to the next one ahead of that.
func (m *meeting) meet() {
	came := m.came.Add(1)
	full := (came + m.count - 1) / m.count * m.count
	if came == full {
		m.all.strike()
		return
	}
	m.all.await(func() bool {
		return m.came.Load() >= full
	})
}

// table is where goroutines put numbers down, and add up those of all, round by round.
type table struct {
	rows   [][]uint64
	rounds int
	down   []atomic.Uint64 // what each put down last
	all    *meeting
}

// newTable has as many rounds as the shortest row has numbers.
func newTable(rows [][]uint64) *table {
	t := &table{rows: rows, down: make([]atomic.Uint64, len(rows)), all: newMeeting(len(rows))}
	for i, row := range rows {
		if i == 0 || len(row) < t.rounds {
			t.rounds = len(row)
		}
	}
	return t
}

// sit goes through all rounds: the sums that this goroutine saw.
func (t *table) sit(i int) []uint64 {
	var sums []uint64
	for _, n := range t.rows[i][:t.rounds] {
		t.down[i].Store(n)
		t.all.meet()
		sums = append(sums, t.sum())
		// Nobody puts the next number down till all have seen this one.
		t.all.meet()
	}
	return sums
}

func (t *table) sum() uint64 {
	var sum uint64
	for i := range t.down {
		sum += t.down[i].Load()
	}
	return sum
}
