package step_test

import (
	"math"
	"math/rand"
	"reflect"
	"slices"
	"testing"

	"shutter/api"
	"shutter/arena"
	"shutter/step"
)

// adder is a proc of so many accesses, each an Add of 1 to a cell; it keeps what it was told.
type adder struct {
	addr uint64
	left int
	told []uint64
}

func (p *adder) Step(v *arena.View) bool {
	if p.left > 0 {
		p.left--
		p.told = append(p.told, v.Add(p.addr, 1))
	}
	return p.left == 0
}

// silent is a proc of so many steps without an access. (A kind that is no pointer.)
type silent struct{ left *int }

func (p silent) Step(*arena.View) bool {
	if *p.left > 0 {
		*p.left--
	}
	return *p.left == 0
}

func steps(n int) silent {
	return silent{left: &n}
}

// fragile is a proc whose nil pointer does not know that it is nil.
type fragile struct{ n int }

func (p *fragile) Step(*arena.View) bool {
	p.n++
	return p.n == 2
}

func newMemory(t *testing.T) *arena.Memory {
	t.Helper()
	m, err := arena.New(256, false)
	if err != api.OK {
		t.Fatal(err)
	}
	return m
}

func newRunner(t *testing.T, m *arena.Memory, threads ...[]step.Proc) *step.Runner {
	t.Helper()
	r, err := step.New(m, threads)
	if r == nil || err != api.OK {
		t.Fatal(r, err)
	}
	return r
}

func call(number, thread, index int) api.Event {
	return api.Event{Step: number, Thread: thread, Index: index}
}

func ret(number, thread, index int) api.Event {
	return api.Event{Step: number, Thread: thread, Index: index, Return: true}
}

func checkEvents(t *testing.T, r *step.Runner, want ...api.Event) {
	t.Helper()
	if got := r.Events(); !slices.Equal(got, want) {
		t.Errorf("events %v, not %v", got, want)
	}
}

func checkAt(t *testing.T, r *step.Runner, want ...int) {
	t.Helper()
	if got := r.At(); !slices.Equal(got, want) {
		t.Errorf("at %v, not %v", got, want)
	}
}

func checkPending(t *testing.T, r *step.Runner, want ...int) {
	t.Helper()
	if got := r.Pending(); !slices.Equal(got, want) {
		t.Errorf("pending %v, not %v", got, want)
	}
}

// P4.1: the errors, in their order, and the bounds with one beyond each.
func TestNewErrors(t *testing.T) {
	m := newMemory(t)
	manyThreads := func(n int) [][]step.Proc { return make([][]step.Proc, n) }
	manyCalls := func(n int) [][]step.Proc { return [][]step.Proc{nil, make([]step.Proc, n)} }
	for _, c := range []struct {
		m       *arena.Memory
		threads [][]step.Proc
		want    api.Errno
	}{
		{nil, nil, api.ErrNil},
		{nil, [][]step.Proc{{step.NewLoad(1)}}, api.ErrNil},
		{nil, manyThreads(api.MaxThreads + 1), api.ErrNil},
		{m, nil, api.OK},
		{m, [][]step.Proc{}, api.OK},
		{m, [][]step.Proc{nil, {}}, api.OK},
		{m, manyThreads(api.MaxThreads), api.OK},
		{m, manyThreads(api.MaxThreads + 1), api.ErrLong},
		{m, manyThreads(1000), api.ErrLong},
		{m, manyCalls(api.MaxCalls), api.OK},
		{m, manyCalls(api.MaxCalls + 1), api.ErrLong},
	} {
		r, err := step.New(c.m, c.threads)
		if err != c.want || (r == nil) != (err != api.OK) {
			t.Errorf("New of %d threads: %v, %d, not %d", len(c.threads), r, err, c.want)
		}
	}
}

// P4.1: a runner that has not had a pick.
func TestNewIsFresh(t *testing.T) {
	r := newRunner(t, newMemory(t), []step.Proc{step.NewLoad(1)})
	if r.Steps() != 0 || r.Done() {
		t.Error("steps:", r.Steps(), r.Done())
	}
	checkEvents(t, r)
	checkAt(t, r)
	checkPending(t, r)
}

// P4.1 and P3 of the document's rules: the lists are the runner's own.
func TestNewKeepsListsOfItsOwn(t *testing.T) {
	m := newMemory(t)
	first, second := step.NewLoad(1), step.NewLoad(2)
	calls := []step.Proc{first, second, nil}
	threads := [][]step.Proc{calls[:2], nil}
	r := newRunner(t, m, threads...)
	calls[1] = step.NewLoad(9)
	threads[1] = calls
	r.Run([]int{0, 0, 0, 1})
	if l := m.Trace(); len(l) != 2 || l[0].Addr != 1 || l[1].Addr != 2 {
		t.Error("trace:", l)
	}
	if calls[0] != first || calls[2] != nil {
		t.Error("the lists were changed")
	}
	checkEvents(t, r, call(0, 0, 0), ret(0, 0, 0), call(1, 0, 1), ret(1, 0, 1))
}

// P4.1: the thread i uses the memory by the view of i.
func TestViewsOfThreads(t *testing.T) {
	m := newMemory(t)
	threads := make([][]step.Proc, api.MaxThreads)
	for i := range threads {
		threads[i] = []step.Proc{step.NewLoad(uint64(i))}
	}
	r := newRunner(t, m, threads...)
	for i := api.MaxThreads - 1; i >= 0; i-- {
		if !r.Pick(i) {
			t.Fatal("idle:", i)
		}
	}
	for i, a := range m.Trace() {
		if want := api.MaxThreads - 1 - i; a.Thread != want || a.Addr != uint64(want) {
			t.Errorf("access %d: %v", i, a)
		}
	}
	if !r.Done() {
		t.Error("not done")
	}
}

// The chapter's examples.
func TestExamples(t *testing.T) {
	m, _ := arena.New(128, false)
	r := newRunner(t, m, []step.Proc{step.NewLoad(5)}, []step.Proc{step.NewLoad(5)})
	var told []bool
	for _, pick := range []int{1, 7, 1, 0} {
		told = append(told, r.Pick(pick))
	}
	if !slices.Equal(told, []bool{true, false, false, true}) || r.Steps() != 4 || !r.Done() {
		t.Error(told, r.Steps(), r.Done())
	}
	checkEvents(t, r, call(0, 1, 0), ret(0, 1, 0), call(3, 0, 0), ret(3, 0, 0))
	checkAt(t, r, 0, 3)
	r = newRunner(t, m, []step.Proc{step.NewLoad(5)}, []step.Proc{step.NewLoad(5)})
	if r.Finish(1) || r.Steps() != 1 || !r.Finish(1) || r.Steps() != 2 {
		t.Error("Finish")
	}
}

// P4.2, P4.3: a pick takes a step of the call that is pending, else begins the next one; step by step.
func TestPick(t *testing.T) {
	m := newMemory(t)
	r := newRunner(t, m, []step.Proc{&adder{addr: 3, left: 2}, step.NewLoad(3)}, []step.Proc{&adder{addr: 3, left: 3}})
	for i, c := range []struct {
		pick    int
		want    bool
		pending []int
		done    bool
	}{
		{0, true, []int{0}, false},
		{1, true, []int{0, 1}, false},
		{0, true, []int{1}, false},
		{0, true, []int{1}, false},
		{0, false, []int{1}, false},
		{1, true, []int{1}, false},
		{2, false, []int{1}, false},
		{1, true, nil, true},
		{1, false, nil, true},
	} {
		if got := r.Pick(c.pick); got != c.want || r.Done() != c.done || r.Steps() != i+1 {
			t.Errorf("pick %d of %d: %t, done %t, steps %d", i, c.pick, got, r.Done(), r.Steps())
		}
		checkPending(t, r, c.pending...)
	}
	checkEvents(t, r, call(0, 0, 0), call(1, 1, 0), ret(2, 0, 0), call(3, 0, 1), ret(3, 0, 1), ret(7, 1, 0))
	checkAt(t, r, 0, 1, 2, 3, 5, 7)
	if m.Peek(3) != 5 {
		t.Error("the cell holds", m.Peek(3))
	}
}

// P4.2: idle picks change nothing but the number of steps.
func TestIdlePicks(t *testing.T) {
	m := newMemory(t)
	r := newRunner(t, m, []step.Proc{step.NewLoad(1)}, nil)
	idle := []int{-1, 1, 2, 63, 64, 65, math.MaxInt, math.MinInt}
	for i, pick := range idle {
		if r.Pick(pick) || r.Steps() != i+1 {
			t.Errorf("pick of %d: steps %d", pick, r.Steps())
		}
	}
	if m.Made() != 0 || r.Done() {
		t.Error("something was done:", m.Made())
	}
	checkEvents(t, r)
	checkPending(t, r)
	if !r.Pick(0) || r.Pick(0) {
		t.Error("the thread 0")
	}
	checkEvents(t, r, call(len(idle), 0, 0), ret(len(idle), 0, 0))
	checkAt(t, r, len(idle))
}

// P4.2: Run is picks; an empty list is none.
func TestRun(t *testing.T) {
	m := newMemory(t)
	r := newRunner(t, m, []step.Proc{step.NewLoad(1)}, []step.Proc{step.NewLoad(2)})
	r.Run(nil)
	r.Run([]int{})
	if r.Steps() != 0 {
		t.Error("steps:", r.Steps())
	}
	picks := []int{9, 1, -5, 1, 0, 7}
	r.Run(picks[:5])
	if r.Steps() != 5 || !r.Done() || !slices.Equal(picks, []int{9, 1, -5, 1, 0, 7}) {
		t.Error(r.Steps(), r.Done(), picks)
	}
	checkEvents(t, r, call(1, 1, 0), ret(1, 1, 0), call(4, 0, 0), ret(4, 0, 0))
}

// P4.2: Finish goes in turn from 0 on, and leaves those out that have no call left.
func TestFinishGoesInTurn(t *testing.T) {
	m := newMemory(t)
	r := newRunner(t, m,
		[]step.Proc{step.NewLoad(1)},
		[]step.Proc{&adder{addr: 2, left: 2}, step.NewLoad(3)},
		nil,
		[]step.Proc{&adder{addr: 4, left: 2}})
	r.Pick(3)
	if !r.Finish(100) || r.Steps() != 6 || !r.Done() {
		t.Error("steps:", r.Steps(), r.Done())
	}
	checkEvents(t, r,
		call(0, 3, 0), call(1, 0, 0), ret(1, 0, 0), call(2, 1, 0), ret(3, 3, 0),
		ret(4, 1, 0), call(5, 1, 1), ret(5, 1, 1))
	checkPending(t, r)
	if !r.Finish(100) || r.Steps() != 6 {
		t.Error("a Finish of what is done took picks:", r.Steps())
	}
}

// P4.2: at most so many picks; of none and below it tells whether all is done.
func TestFinishMost(t *testing.T) {
	r := newRunner(t, newMemory(t), []step.Proc{&adder{addr: 1, left: 3}}, []step.Proc{&adder{addr: 1, left: 2}})
	for _, most := range []int{0, -1, math.MinInt} {
		if r.Finish(most) || r.Steps() != 0 {
			t.Errorf("Finish(%d): steps %d", most, r.Steps())
		}
	}
	if r.Finish(3) || r.Steps() != 3 {
		t.Error("Finish(3):", r.Steps())
	}
	// It begins with the thread 0 again, whoever had the last pick.
	if r.Finish(1) || r.Steps() != 4 {
		t.Error("Finish(1):", r.Steps())
	}
	checkPending(t, r, 1)
	if !r.Finish(math.MaxInt) || r.Steps() != 5 {
		t.Error("Finish of all:", r.Steps())
	}
	for _, most := range []int{0, -1, math.MinInt} {
		if !r.Finish(most) || r.Steps() != 5 {
			t.Errorf("Finish(%d) of what is done: steps %d", most, r.Steps())
		}
	}
}

// P4.2, P4.3: a runner without calls is done from its beginning on.
func TestWithoutCalls(t *testing.T) {
	for _, threads := range [][][]step.Proc{nil, {nil, {}, nil}} {
		r := newRunner(t, newMemory(t), threads...)
		if !r.Done() || !r.Finish(0) || !r.Finish(5) || r.Pick(0) || r.Steps() != 1 || !r.Done() {
			t.Error("without calls:", r.Done(), r.Steps())
		}
		checkEvents(t, r)
		checkPending(t, r)
	}
}

// Words of the chapter: a proc that is nil is done by one step without an access; so are nil ones of this package's kinds.
func TestNilProcs(t *testing.T) {
	m := newMemory(t)
	var load *step.Load
	var row *step.Row
	var other *fragile
	r := newRunner(t, m, []step.Proc{nil, load, row, other, step.NewLoad(1)})
	for i := range 4 {
		if !r.Pick(0) || m.Made() != 0 {
			t.Error("step", i, m.Made())
		}
	}
	r.Pick(0)
	checkEvents(t, r, call(0, 0, 0), ret(0, 0, 0), call(1, 0, 1), ret(1, 0, 1), call(2, 0, 2), ret(2, 0, 2), call(3, 0, 3), ret(3, 0, 3), call(4, 0, 4), ret(4, 0, 4))
	checkAt(t, r, 4)
}

// P4.3: At has -1 for what no step of this runner made, ahead, between and behind.
func TestAtOfOtherAccesses(t *testing.T) {
	m := newMemory(t)
	other := m.View(0)
	other.Load(1)
	other.Alloc([]uint64{1})
	r := newRunner(t, m, []step.Proc{step.NewLoad(1), steps(2), step.NewLoad(2)})
	checkAt(t, r, -1, -1)
	other.Load(2)
	r.Run([]int{5, 0})
	checkAt(t, r, -1, -1, -1, 1)
	other.Store(3, 3)
	checkAt(t, r, -1, -1, -1, 1, -1)
	second := newRunner(t, m, []step.Proc{step.NewLoad(7)})
	second.Pick(0)
	r.Run([]int{0, 0, 0})
	other.Cas(1, 0, 0)
	checkAt(t, r, -1, -1, -1, 1, -1, -1, 4, -1)
	checkAt(t, second, -1, -1, -1, -1, -1, 0, -1, -1)
}

// P4.3: At of a live memory is none.
func TestAtOfLive(t *testing.T) {
	m, _ := arena.New(128, true)
	p := &adder{addr: 1, left: 3}
	r := newRunner(t, m, []step.Proc{p})
	if !r.Finish(3) || len(r.At()) != 0 || m.Peek(1) != 3 || !slices.Equal(p.told, []uint64{0, 1, 2}) {
		t.Error(r.At(), m.Peek(1), p.told)
	}
	checkEvents(t, r, call(0, 0, 0), ret(2, 0, 0))
}

// P3 of the document's rules: what is answered is the caller's.
func TestAnswersAreTheCallers(t *testing.T) {
	r := newRunner(t, newMemory(t), []step.Proc{step.NewLoad(1)}, []step.Proc{&adder{addr: 1, left: 2}})
	r.Run([]int{0, 1})
	events, at, pending := r.Events(), r.At(), r.Pending()
	events[0].Step, at[0], pending[0] = 99, 99, 99
	_ = append(events[:1], call(98, 98, 98))
	_ = append(at[:1], 98)
	checkEvents(t, r, call(0, 0, 0), ret(0, 0, 0), call(1, 1, 0))
	checkAt(t, r, 0, 1)
	checkPending(t, r, 1)
	before := r.Events()
	r.Pick(1)
	if len(before) != 3 {
		t.Error("it grew")
	}
}

// P1 of the document's rules: a nil runner.
func TestNilRunner(t *testing.T) {
	var r *step.Runner
	r.Run([]int{0, 1})
	if r.Pick(0) || r.Finish(5) || r.Steps() != 0 || r.Events() != nil || r.At() != nil || r.Pending() != nil || r.Done() {
		t.Error("a nil runner")
	}
}

// P4.4.
func TestAlone(t *testing.T) {
	m := newMemory(t)
	v := m.View(4)
	p := &adder{addr: 1, left: 5}
	for _, most := range []int{0, -1, math.MinInt} {
		if step.Alone(v, p, most) || step.Alone(v, nil, most) || v.Accesses() != 0 {
			t.Errorf("Alone with %d: %d accesses", most, v.Accesses())
		}
	}
	if step.Alone(v, p, 2) || v.Accesses() != 2 {
		t.Error("two of five:", v.Accesses())
	}
	if step.Alone(v, p, 2) || !step.Alone(v, p, 1) || v.Accesses() != 5 {
		t.Error("five of five:", v.Accesses())
	}
	if !step.Alone(v, step.NewLoad(1), math.MaxInt) || v.Accesses() != 6 {
		t.Error("it went on behind the end:", v.Accesses())
	}
	var load *step.Load
	var row *step.Row
	var other *fragile
	for _, p := range []step.Proc{nil, load, row, other} {
		if !step.Alone(v, p, 1) || v.Accesses() != 6 {
			t.Error("a nil proc")
		}
	}
	if got := m.Trace()[0].Thread; got != 4 {
		t.Error("thread", got)
	}
}

// P4.4 and P1 of the document's rules: steps on a nil view make no access, but go on.
func TestNilView(t *testing.T) {
	load := step.NewLoad(1)
	p := &adder{addr: 1, left: 2}
	row := step.NewRow([]step.Proc{load, p})
	if step.Alone(nil, row, 2) || !step.Alone(nil, row, 1) || load.Value() != 0 || p.left != 0 {
		t.Error("on a nil view:", load.Value(), p.left)
	}
	if !step.NewLoad(3).Step(nil) || !step.Alone(nil, nil, 1) {
		t.Error("on a nil view")
	}
}

// P4.5: Load.
func TestLoad(t *testing.T) {
	m := newMemory(t)
	v := m.View(0)
	v.Store(5, 77)
	p := step.NewLoad(5)
	if p.Value() != 0 || v.Accesses() != 1 {
		t.Error("ahead of its step:", p.Value())
	}
	if !p.Step(v) || p.Value() != 77 || v.Accesses() != 2 {
		t.Error("its step:", p.Value(), v.Accesses())
	}
	v.Store(5, 78)
	if !p.Step(v) || p.Value() != 77 || v.Accesses() != 3 {
		t.Error("a step of one that is done:", p.Value(), v.Accesses())
	}
	far := step.NewLoad(math.MaxUint64)
	if !far.Step(v) || far.Value() != 0 || v.Accesses() != 4 {
		t.Error("of no cell:", far.Value(), v.Accesses())
	}
	var none *step.Load
	if !none.Step(v) || none.Value() != 0 || v.Accesses() != 4 {
		t.Error("a nil one")
	}
}

// P4.5: Row: the procs one behind the other, done with the last one's last step.
func TestRow(t *testing.T) {
	m := newMemory(t)
	v := m.View(0)
	var load *step.Load
	row := step.NewRow([]step.Proc{step.NewLoad(1), &adder{addr: 2, left: 2}, nil, load, step.NewRow([]step.Proc{step.NewLoad(3), step.NewLoad(4)}), steps(2)})
	made := []int{1, 2, 3, 3, 3, 4, 5, 5, 5}
	for i, want := range made {
		done := row.Step(v)
		if done != (i == len(made)-1) || v.Accesses() != want {
			t.Errorf("step %d: done %t, %d accesses", i, done, v.Accesses())
		}
	}
	if !row.Step(v) || v.Accesses() != 5 {
		t.Error("a step of one that is done:", v.Accesses())
	}
	var addrs []uint64
	for _, a := range m.Trace() {
		addrs = append(addrs, a.Addr)
	}
	if !slices.Equal(addrs, []uint64{1, 2, 2, 3, 4}) {
		t.Error("addresses:", addrs)
	}
}

// P4.5: a Row of an empty list, one of nil ones, and a nil one.
func TestRowEdges(t *testing.T) {
	v := newMemory(t).View(0)
	for _, l := range [][]step.Proc{nil, {}, {nil}} {
		if row := step.NewRow(l); !row.Step(v) || !row.Step(v) {
			t.Error("done by its first step:", l)
		}
	}
	if row := step.NewRow([]step.Proc{nil, nil}); row.Step(v) || !row.Step(v) {
		t.Error("each nil one takes a step")
	}
	if row := step.NewRow([]step.Proc{step.NewRow(nil), step.NewLoad(1)}); row.Step(v) || !row.Step(v) {
		t.Error("an empty one takes a step")
	}
	var none *step.Row
	if !none.Step(v) || v.Accesses() != 1 {
		t.Error("a nil one")
	}
}

// P4.5: NewRow keeps a list of its own.
func TestRowKeepsAListOfItsOwn(t *testing.T) {
	m := newMemory(t)
	l := []step.Proc{step.NewLoad(1), step.NewLoad(2), step.NewLoad(3)}
	row := step.NewRow(l[:2])
	l[1] = step.NewLoad(9)
	if !step.Alone(m.View(0), row, 2) || m.Trace()[1].Addr != 2 || l[2] == nil {
		t.Error("trace:", m.Trace())
	}
}

// drawnThreads are threads of adders and silent ones, drawn by a seed; each thread has a cell of its own, if so asked.
func drawnThreads(draw *rand.Rand, own bool) ([][]step.Proc, []*adder, int) {
	threads := make([][]step.Proc, 1+draw.Intn(5))
	var adders []*adder
	total := 0
	for i := range threads {
		addr := uint64(7)
		if own {
			addr += uint64(i)
		}
		for range draw.Intn(5) {
			n := 1 + draw.Intn(4)
			total += n
			if draw.Intn(4) == 0 {
				threads[i] = append(threads[i], steps(n))
				continue
			}
			p := &adder{addr: addr, left: n}
			adders = append(adders, p)
			threads[i] = append(threads[i], p)
		}
	}
	return threads, adders, total
}

func drawnPicks(draw *rand.Rand, n int) []int {
	picks := make([]int, n)
	for i := range picks {
		picks[i] = draw.Intn(8) - 1
	}
	return picks
}

// P4.6: each return stands behind its call, each call behind the return ahead of it in its thread.
func TestEventsAreInOrder(t *testing.T) {
	for seed := range int64(200) {
		draw := rand.New(rand.NewSource(seed))
		threads, _, _ := drawnThreads(draw, false)
		r := newRunner(t, newMemory(t), threads...)
		picks := drawnPicks(draw, 40)
		r.Run(picks)
		if r.Steps() != len(picks) {
			t.Fatal("steps:", r.Steps())
		}
		begun := make([]int, len(threads))
		returned := make([]int, len(threads))
		last := 0
		for _, e := range r.Events() {
			if e.Step < last || picks[e.Step] != e.Thread {
				t.Fatal("an event at a step of another:", e)
			}
			last = e.Step
			if !e.Return {
				if e.Index != begun[e.Thread] || begun[e.Thread] != returned[e.Thread] {
					t.Fatal("a call:", e)
				}
				begun[e.Thread]++
				continue
			}
			if e.Index != returned[e.Thread] || begun[e.Thread] != e.Index+1 {
				t.Fatal("a return:", e)
			}
			returned[e.Thread]++
		}
		var pending []int
		for i := range threads {
			if begun[i] > returned[i] {
				pending = append(pending, i)
			}
		}
		checkPending(t, r, pending...)
		if r.Done() != (len(pending) == 0 && slices.EqualFunc(threads, returned, func(l []step.Proc, n int) bool { return len(l) == n })) {
			t.Fatal("done:", r.Done())
		}
	}
}

// P4.7: Run of two lists, one behind the other, is Run of both as one.
func TestRunOfTwoLists(t *testing.T) {
	for seed := range int64(100) {
		run := func(cut bool) (*step.Runner, *arena.Memory) {
			draw := rand.New(rand.NewSource(seed))
			threads, _, _ := drawnThreads(draw, false)
			picks := drawnPicks(draw, 30)
			m := newMemory(t)
			r := newRunner(t, m, threads...)
			if cut {
				at := draw.Intn(len(picks) + 1)
				r.Run(picks[:at])
				r.Run(picks[at:])
			} else {
				r.Run(picks)
			}
			return r, m
		}
		a, m := run(false)
		b, n := run(true)
		if a.Steps() != b.Steps() || a.Done() != b.Done() || !slices.Equal(a.Events(), b.Events()) || !slices.Equal(a.At(), b.At()) || !slices.Equal(a.Pending(), b.Pending()) || !reflect.DeepEqual(m.Trace(), n.Trace()) {
			t.Fatal("it is not the same, seed", seed)
		}
	}
}

// P4.8: Finish with as many picks as there are steps left tells true, and with one less it does not.
func TestFinishWithJustEnough(t *testing.T) {
	for seed := range int64(200) {
		draw := rand.New(rand.NewSource(seed))
		threads, _, left := drawnThreads(draw, false)
		r := newRunner(t, newMemory(t), threads...)
		for _, pick := range drawnPicks(draw, 12) {
			if r.Pick(pick) {
				left--
			}
		}
		if left > 0 && r.Finish(draw.Intn(left)) {
			t.Fatal("done too early")
		}
		for !r.Done() && r.Steps() < 1000 {
			r.Finish(1)
		}
		before := r.Steps()
		if !r.Finish(0) || !r.Done() || r.Pending() != nil || r.Steps() != before {
			t.Fatal("not done, seed", seed)
		}
		threads, _, total := drawnThreads(draw, false)
		r = newRunner(t, newMemory(t), threads...)
		if total > 0 && r.Finish(total-1) {
			t.Fatal("done with one pick less")
		}
		if total > 0 && !r.Finish(1) || !r.Done() || r.Pending() != nil || r.Steps() != total {
			t.Fatal("not done with all picks:", r.Steps(), total)
		}
	}
}

// P4.9: what threads do that use no cell in common is the same for all picks.
func TestThreadsThatUseNoCellInCommon(t *testing.T) {
	for seed := range int64(50) {
		run := func(picksSeed int64) ([][]uint64, []uint64) {
			threads, adders, total := drawnThreads(rand.New(rand.NewSource(seed)), true)
			m := newMemory(t)
			r := newRunner(t, m, threads...)
			r.Run(drawnPicks(rand.New(rand.NewSource(picksSeed)), total))
			if !r.Finish(total) {
				t.Fatal("not done")
			}
			var told [][]uint64
			for _, p := range adders {
				told = append(told, p.told)
			}
			var cells []uint64
			for addr := range uint64(16) {
				cells = append(cells, m.Peek(addr))
			}
			return told, cells
		}
		told, cells := run(1)
		for picksSeed := range int64(10) {
			otherTold, otherCells := run(picksSeed + 2)
			if !reflect.DeepEqual(told, otherTold) || !slices.Equal(cells, otherCells) {
				t.Fatal("it is not the same, seed", seed, picksSeed)
			}
		}
	}
}

// P4.1, P4.3: as many calls as a thread may have.
func TestManyCalls(t *testing.T) {
	m := newMemory(t)
	calls := make([]step.Proc, api.MaxCalls)
	for i := range calls {
		calls[i] = step.NewLoad(1)
	}
	r := newRunner(t, m, calls)
	if r.Finish(api.MaxCalls-1) || !r.Finish(1) || m.Made() != api.MaxCalls || len(r.Events()) != 2*api.MaxCalls {
		t.Error("steps:", r.Steps(), m.Made())
	}
}
