package locked_test

import (
	"cmp"
	"math"
	"reflect"
	"runtime"
	"slices"
	"testing"

	"shutter/api"
	"shutter/crew"
	"shutter/hist"
	"shutter/lin"
	"shutter/locked"
	"shutter/model"
	"shutter/script"
)

// manyCores tells whether goroutines can be under way at one time: on one core they get between one another too seldom to be waited for.
func manyCores() bool {
	return runtime.GOMAXPROCS(0) > 1 && runtime.NumCPU() > 1
}

// checkDids checks, of what Run tells, all that does not hang on what the operations tell: places, tickets, operations with their handles, the order's numbers (P25.2).
func checkDids(t *testing.T, threads [][]api.Op, l []api.Did, order []int) {
	t.Helper()
	at := 0
	var tickets []int
	for i, ops := range threads {
		begin := at
		for index, op := range ops {
			if at >= len(l) {
				t.Fatal("too few:", len(l))
			}
			d := l[at]
			at++
			tickets = append(tickets, d.Span.From, d.Span.To)
			if d.Span.Thread != i || d.Span.Index != index {
				t.Fatalf("not thread by thread: %+v", d)
			}
			if ref := op.Ref; ref.Set {
				op.Handle = 0
				if ref.Thread == i && ref.Index >= 0 && ref.Index < index {
					op.Handle = l[begin+ref.Index].Answer.Handle
				}
			}
			op.Ref = api.Ref{}
			if !slices.Equal(op.Keys, d.Op.Keys) {
				t.Fatalf("%+v, not %+v", d.Op, op)
			}
			op.Keys = d.Op.Keys
			if !reflect.DeepEqual(op, d.Op) {
				t.Fatalf("%+v, not %+v", d.Op, op)
			}
		}
	}
	if at != len(l) || len(order) != len(l) {
		t.Fatal(at, len(l), len(order))
	}
	slices.Sort(tickets)
	for i, ticket := range tickets {
		if i != ticket {
			t.Fatal("tickets:", tickets)
		}
	}
	numbers := slices.Clone(order)
	slices.Sort(numbers)
	for i, number := range numbers {
		if i != number {
			t.Fatal("order:", order)
		}
	}
}

// byTickets are the same Dids by their first tickets, and the order as numbers of these.
func byTickets(l []api.Did, order []int) ([]api.Did, []int) {
	sorted := slices.Clone(l)
	slices.SortFunc(sorted, func(a, b api.Did) int { return cmp.Compare(a.Span.From, b.Span.From) })
	var turned []int
	for _, i := range order {
		turned = append(turned, slices.IndexFunc(sorted, func(d api.Did) bool { return d.Span == l[i].Span }))
	}
	return sorted, turned
}

// P25.2, P25.3 (E8): the order shows what was told, whoever gets between whom; also where slots and stamps are short.
func TestOrderShows(t *testing.T) {
	overlaps, unlike := 0, 0
	for seed := uint64(0); seed < 300 || seed < 5000 && overlaps*unlike == 0; seed++ {
		c := configs()[seed%16]
		count, calls := 2+int(seed%7), 4+int(seed%40)
		s, errno := script.Draw(seed, c, count, calls, 0)
		if errno != api.OK {
			t.Fatal(errno)
		}
		for i := range s.Threads { // handles by their numbers: maybe others'
			s.Threads[i] = append(s.Threads[i], api.Op{Kind: api.Release, Handle: 1}, api.Op{Kind: api.Count, Handle: 65537, Hi: 9}, api.Op{Kind: 77})
		}
		l, order, errno := locked.Run(c, s.Threads)
		if errno != api.OK {
			t.Fatal(errno)
		}
		checkDids(t, s.Threads, l, order)
		if errno := lin.Witness(l, order, c.Multi); errno != api.OK {
			t.Fatalf("%d: %+v\n%v", errno, l, order)
		}
		sorted, turned := byTickets(l, order)
		if errno := lin.Witness(sorted, turned, c.Multi); errno != api.OK {
			t.Fatalf("%d: %+v\n%v", errno, sorted, turned)
		}
		var spans []api.Span
		for _, d := range sorted {
			spans = append(spans, d.Span)
		}
		if hist.Width(spans) > 1 {
			overlaps++
		}
		if !slices.IsSorted(order) {
			unlike++
		}
	}
	if manyCores() && (overlaps == 0 || unlike == 0) {
		t.Error("runs in which calls overlap:", overlaps, "; with another order than that of the threads:", unlike)
	}
}

// P25.1, P25.5 (E8): many call Do at one time: the numbers are all of them, each once; done in that order, the model tells the same, and leaves what is there.
func TestEachAsAWhole(t *testing.T) {
	const all, each = 8, 300
	c := api.Config{Cells: 200, Slots: 4, Stamps: 200, Multi: 3}
	type numbered struct {
		op   api.Op
		told api.Answer
	}
	for round := range uint64(10) {
		s := newStore(t, c)
		drawn, errno := script.Draw(round, api.Config{Cells: 2000, Slots: 4, Stamps: 200, Multi: 3}, all, api.MaxDraw, 0)
		if errno != api.OK {
			t.Fatal(errno)
		}
		done := make([]numbered, all*each)
		crew.Together(all, func(i int) {
			last := uint64(0)
			for k := range each {
				op := drawn.Threads[i][k%api.MaxDraw]
				op.Handle = last
				a, number := s.Do(op)
				if number < 0 || number >= len(done) || done[number].op.Kind != 0 {
					t.Error("number", number)
					return
				}
				if op.Kind == api.Snapshot {
					last = a.Handle
				}
				done[number] = numbered{op, a}
				if k%50 == 0 {
					s.Content() // others may look, too
				}
			}
		})
		m, _ := model.New(c.Multi)
		for number, d := range done {
			if !m.Take(d.op, d.told) {
				t.Fatalf("%d: %+v", number, d)
			}
		}
		if got := s.Content(); !slices.Equal(got, m.Content()) {
			t.Fatalf("%v, not %v", got, m.Content())
		}
	}
}

// P25.1: an amount that many add to, by Gets and Swaps, is what they added: nobody gets into a Swap.
func TestSwapsAdd(t *testing.T) {
	const all, each = 8, 500
	s := newStore(t, config())
	s.Do(api.Op{Kind: api.Put, Key: 7})
	crew.Together(all, func(i int) {
		for range each {
			for done := false; !done; {
				was, _ := s.Do(api.Op{Kind: api.Get, Key: 7})
				told, _ := s.Do(api.Op{Kind: api.Swap, Key: 7, Old: was.Value, Value: was.Value + 1})
				done = told.Done
			}
		}
	})
	if got := s.Content(); !slices.Equal(got, []api.Pair{{Key: 7, Value: all * each}}) {
		t.Error(got)
	}
}

// P25.2: Refs: to earlier calls of the own thread alone, whatever these told.
func TestRefs(t *testing.T) {
	c := config()
	c.Slots = 1
	threads := [][]api.Op{ops(t,
		"put 7 1", "snapshot", "put 7 2", "range @0.1 0 9", // its own
		"count @0.2 0 9",             // told no handle
		"snapshot", "count @0.5 0 9", // told an error
		"count @0.7 0 9", "count @0.9 0 9", "count @0.99 0 9", // itself, a later one, none
		"count @1.0 0 9", // another thread's
		"release @0.1", "count @0.1 0 9"),
		nil,
		ops(t, "count @0.1 0 9", "get 8"),
	}
	odd := []api.Ref{{Set: true, Index: -1}, {Set: true, Index: math.MinInt}, {Set: true, Thread: -1, Index: 1}, {Set: true, Thread: 3, Index: 1}, {Set: true, Thread: math.MaxInt, Index: math.MaxInt}}
	for _, ref := range odd {
		threads[0] = append(threads[0], api.Op{Kind: api.Count, Handle: 1, Ref: ref})
	}
	l, order, errno := locked.Run(c, threads)
	if errno != api.OK {
		t.Fatal(errno)
	}
	checkDids(t, threads, l, order)
	for i, want := range []string{"none", "handle 1", "found 1", "pairs 7:1", "errno 33", "errno 32", "errno 33", "errno 33", "errno 33", "errno 33", "errno 33", "ok", "errno 33", "errno 33", "errno 33", "errno 33", "errno 33", "errno 33", "errno 33", "none"} {
		if got := script.PrintAnswer(l[i].Op.Kind, l[i].Answer); got != want {
			t.Errorf("%+v: %s, not %s", l[i].Op, got, want)
		}
	}
	// A Ref that is not Set plays no part, and is zero in what is told.
	threads = [][]api.Op{append(ops(t, "snapshot"), api.Op{Kind: api.Release, Handle: 1, Ref: api.Ref{Thread: 5, Index: 5}})}
	l, _, _ = locked.Run(c, threads)
	if l[1].Answer.Errno != api.OK || l[1].Op.Ref != (api.Ref{}) || l[1].Op.Handle != 1 {
		t.Errorf("%+v", l[1])
	}
	// An operation that needs no handle has it in the place of a Ref all the same.
	threads = [][]api.Op{append(ops(t, "snapshot"), api.Op{Kind: api.Get, Handle: 5, Ref: api.Ref{Set: true}})}
	l, _, _ = locked.Run(c, threads)
	if l[1].Op.Ref != (api.Ref{}) || l[1].Op.Handle != 1 {
		t.Errorf("%+v", l[1])
	}
}

// P25.2: how many threads and operations may be; New's error goes ahead.
func TestRunLimits(t *testing.T) {
	long := slices.Repeat(ops(t, "put 7 1"), api.MaxCalls)
	for _, x := range []struct {
		threads [][]api.Op
		want    api.Errno
	}{
		{nil, api.OK},
		{[][]api.Op{nil, {}, nil}, api.OK},
		{slices.Repeat([][]api.Op{ops(t, "put 7 1", "get 7")}, api.MaxFree), api.OK},
		{make([][]api.Op, api.MaxFree+1), api.ErrLong},
		{slices.Repeat([][]api.Op{ops(t, "put 7 1")}, api.MaxFree+1), api.ErrLong},
		{[][]api.Op{nil, long}, api.OK},
		{[][]api.Op{nil, append(long[:len(long):len(long)], api.Op{}), nil}, api.ErrLong},
	} {
		l, order, errno := locked.Run(config(), x.threads)
		if errno != x.want || errno != api.OK && (len(l) != 0 || len(order) != 0) {
			t.Fatal(len(x.threads), errno, len(l), len(order))
		}
		if errno == api.OK {
			checkDids(t, x.threads, l, order)
			if errno := lin.Witness(l, order, 4); errno != api.OK {
				t.Error(errno)
			}
		}
		if l, order, errno := locked.Run(api.Config{}, x.threads); errno != api.ErrRange || len(l) != 0 || len(order) != 0 {
			t.Error(errno)
		}
	}
}

// P3: of Run: what is handed in stays, spare room too; what is told is the caller's.
func TestRunLists(t *testing.T) {
	keys := []uint64{7, 8, 9, 9}
	multi := api.Op{Kind: api.MultiGet, Ref: api.Ref{Set: true, Index: 1}, Keys: keys[:2]}
	thread := append(ops(t, "put 7 1", "snapshot"), multi, multi, api.Op{Kind: 99})
	threads := [][]api.Op{thread[:4], nil}
	l, order, errno := locked.Run(config(), threads[:1])
	if errno != api.OK || !slices.Equal(order, []int{0, 1, 2, 3}) {
		t.Fatal(order, errno)
	}
	for i := range l {
		for k := range l[i].Op.Keys {
			l[i].Op.Keys[k] = 55
		}
		l[i].Op.Keys = append(l[i].Op.Keys, 66)
		if i == 2 {
			l[i].Answer.Pairs[0].Key = 55
		}
	}
	if !slices.Equal(keys, []uint64{7, 8, 9, 9}) || thread[4].Kind != 99 || thread[2].Ref != multi.Ref || threads[1] != nil {
		t.Error(keys, thread)
	}
	if !slices.Equal(l[3].Answer.Pairs, []api.Pair{{Key: 7, Value: 1}}) || !slices.Equal(l[3].Op.Keys, []uint64{55, 55, 66}) {
		t.Errorf("%+v", l[3])
	}
}
