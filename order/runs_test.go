package order_test

import (
	"cmp"
	"math/rand"
	"reflect"
	"slices"
	"strconv"
	"sync"
	"testing"

	"shutter/api"
	"shutter/arena"
	"shutter/camera"
	"shutter/lin"
	"shutter/order"
	"shutter/step"
)

// watched is a call whose steps are looked at: done by the package's procs on one memory, and beside that as the chapter says it on another one, which notes by which accesses it does what it does.
type watched struct {
	call
	run         *run
	thread      int
	proc        step.Proc
	words       *spoken
	first, last int // the numbers of its first and last access, -1 ahead of them
}

func (p *watched) Step(v *arena.View) bool {
	m := p.run.memory
	if p.first < 0 {
		p.first = m.Made()
	}
	done := p.proc.Step(v)
	if p.words.Step(p.run.beside.View(p.thread)) != done {
		p.run.t.Fatal("the chapter says otherwise")
	}
	if done {
		p.last = m.Made() - 1
	}
	p.run.look()
	return done
}

func (p *watched) told() told { return toldBy(p.proc) }

// run is threads of calls on a list.
type run struct {
	t              *testing.T
	memory, beside *arena.Memory
	runner         *step.Runner
	calls          []*watched
	linked         map[uint64]int // nodes that could be come to at some time
}

// tooMany is more steps than a run takes.
const tooMany = 100000

// newRun has done what its first thread asks for, and nothing of the others.
func newRun(t *testing.T, left int, threads [][]call) *run {
	t.Helper()
	r := &run{t: t, memory: newList(t, left), linked: map[uint64]int{}}
	r.beside = r.memory.Fork()
	r.memory = r.memory.Fork()
	var procs [][]step.Proc
	for thread, calls := range threads {
		var l []step.Proc
		for _, c := range calls {
			p := &watched{call: c, run: r, thread: thread, proc: c.proc(list), words: c.words(t, r.beside, list), first: -1, last: -1}
			r.calls = append(r.calls, p)
			l = append(l, p)
		}
		procs = append(procs, l)
	}
	var errno api.Errno
	if r.runner, errno = step.New(r.memory, procs); errno != api.OK {
		t.Fatal(errno)
	}
	for r.runner.Pick(0) {
		if r.runner.Steps() > tooMany {
			t.Fatal("it does not get on")
		}
	}
	return r
}

// newest is an object's value.
func newest(m *arena.Memory, object uint64) uint64 {
	if version := m.Peek(object); version != 0 {
		return m.Peek(version)
	}
	return 0
}

// look checks P30.3 of what a step has done.
func (r *run) look() {
	come := map[uint64]int{}
	var keys []uint64
	for link := newest(r.memory, head); link/2 != 0; {
		node := link / 2
		if come[node] > 0 {
			r.t.Fatal("the list leads back")
		}
		come[node], r.linked[node] = 1, 1
		if link = newest(r.memory, node+2); link%2 == 0 {
			keys = append(keys, r.memory.Peek(node))
		}
	}
	for i := range keys {
		if i > 0 && keys[i-1] >= keys[i] {
			r.t.Fatal("keys do not rise:", keys)
		}
	}
	for node := range r.linked {
		if come[node] == 0 && newest(r.memory, node+2)%2 == 0 {
			r.t.Fatal("a node that is not deleted cannot be come to:", node)
		}
	}
}

// moments are when versions were put there, and got their stamps, as numbers of accesses.
type moments struct {
	trace   []api.Access
	stamped map[uint64]int // of each version the access that read its stamp
}

func (r *run) moments() moments {
	o := moments{r.memory.Trace(), map[uint64]int{}}
	before := map[int]int{} // of each thread its last access
	for i, a := range o.trace {
		// The head alone is an object that could have been without a version.
		if a.Kind == api.Cas && a.Ok && a.A == 0 && a.Addr != head {
			o.stamped[a.Addr-1] = before[a.Thread]
		}
		before[a.Thread] = i
	}
	return o
}

// put is the version that a CAS of a thread has put there; 0: none.
func (o moments) put(thread int, s swing) uint64 {
	if s.object == 0 {
		return 0
	}
	for _, a := range o.trace[s.from:] {
		if a.Thread != thread || a.Kind != api.Cas || a.Addr != s.object {
			continue
		}
		if a.Ok {
			return a.B
		}
		return 0
	}
	return 0
}

// effect is a call that was done, and when: twice the number of the access, and 1 more, if it is right behind that.
type effect struct {
	*watched
	at    int
	stamp uint64 // of a change
}

// changes are the calls that have changed the list, in their order. One whose version has no stamp has not been done yet.
func (r *run) changes(o moments) []effect {
	var l []effect
	for _, p := range r.calls {
		version := o.put(p.thread, p.words.change)
		if version == 0 || p.last >= 0 && p.told().answer.Errno != api.OK {
			continue
		}
		at, ok := o.stamped[version]
		if !ok {
			r.t.Fatal("a change has no stamp")
		}
		l = append(l, effect{p, 2 * at, r.memory.Peek(version + 1)})
	}
	slices.SortFunc(l, func(a, b effect) int { return a.at - b.at })
	return l
}

// readings are the operations and Seeks that returned and changed nothing.
func (r *run) readings(o moments) []effect {
	var l []effect
	for _, p := range r.calls {
		if p.last < p.first || p.first < 0 || p.kind > doSeek || p.told().errno != api.OK || p.told().answer.Errno != api.OK {
			continue
		}
		if o.put(p.thread, p.words.change) != 0 {
			continue
		}
		at := p.words.read
		if version := o.put(p.thread, p.words.out); version != 0 {
			at = o.stamped[version]
		} else {
			at = max(at, o.stamped[o.trace[at].Got])
		}
		l = append(l, effect{watched: p, at: 2*at + 1})
	}
	return l
}

// content is a map, as pairs by rising keys.
type content []api.Pair

func (c content) index(key uint64) (int, bool) {
	return slices.BinarySearchFunc(c, key, func(p api.Pair, key uint64) int { return cmp.Compare(p.Key, key) })
}

// do is what an operation tells, and what it leaves.
func (c content) do(op api.Op) (api.Answer, content) {
	i, is := c.index(op.Key)
	var a api.Answer
	if is {
		a = found(c[i].Value)
	}
	switch {
	case op.Kind == api.Put && !is:
		return a, slices.Insert(slices.Clone(c), i, api.Pair{Key: op.Key, Value: op.Value})
	case op.Kind == api.Put, op.Kind == api.Swap && is && a.Value == op.Old:
		a.Done = op.Kind == api.Swap
		c = slices.Clone(c)
		c[i].Value = op.Value
	case op.Kind == api.Delete && is:
		return a, slices.Delete(slices.Clone(c), i, i+1)
	}
	return a, c
}

// seek is what a Seek tells.
func (c content) seek(way order.Way, key uint64) told {
	i, is := c.index(key)
	switch way {
	case order.First:
		i = 0
	case order.Last:
		i = len(c) - 1
	case order.Before:
		i--
	case order.After:
		if is {
			i++
		}
	}
	if i < 0 || i >= len(c) {
		return told{}
	}
	return ofPair(c[i].Key, c[i].Value)
}

// from is what Rows tell.
func (c content) from(key uint64, most int) []api.Pair {
	i, _ := c.index(key)
	return append([]api.Pair(nil), c[i:min(len(c), i+most)]...)
}

// mapAt is what those changes leave that have stamps not above one.
func mapAt(changes []effect, stamp uint64) content {
	var c content
	for _, e := range changes {
		if e.stamp <= stamp {
			_, c = c.do(e.op)
		}
	}
	return c
}

// check checks P30.4 to P30.7; before that one thread alone takes out what is deleted.
func (r *run) check() {
	if !reflect.DeepEqual(r.memory.Trace(), r.beside.Trace()) {
		r.t.Fatal("the chapter says otherwise")
	}
	there := order.Pairs(r.memory, list)
	seek := order.NewSeek(list, order.Last, 0)
	if !step.Alone(r.memory.View(60), seek, 1<<16) {
		r.t.Fatal("a Seek is not done")
	}
	if l := order.Pairs(r.memory, list); !slices.Equal(l, there) || seek.Errno() == api.OK && order.Linked(r.memory, list) != len(l) {
		r.t.Fatalf("%v, behind a Seek %v, %d are linked", there, l, order.Linked(r.memory, list))
	}
	if seek.Errno() != api.OK {
		// It has not come by all versions: some may have no stamp yet.
		for _, p := range r.calls {
			if p.last < 0 {
				return
			}
		}
	}
	o := r.moments()
	changes := r.changes(o)
	r.checkOrder(append(r.readings(o), changes...), there)
	r.checkPictures(changes)
}

// checkOrder checks P30.4, and that what is there in the end is what the changes leave.
func (r *run) checkOrder(l []effect, there []api.Pair) {
	slices.SortStableFunc(l, func(a, b effect) int { return a.at - b.at })
	var c content
	for _, e := range l {
		if at := e.at / 2; at < e.first || e.last >= 0 && at > e.last {
			r.t.Fatalf("%+v was done at %d, not from %d to %d", e.call, at, e.first, e.last)
		}
		want := told{}
		if e.kind == doSeek {
			want = c.seek(e.way, e.key)
		} else {
			want.answer, c = c.do(e.op)
		}
		if got := e.told(); e.last >= 0 && !reflect.DeepEqual(got, want) {
			r.t.Fatalf("%+v tells %+v, not %+v", e.call, got, want)
		}
	}
	if !slices.Equal(c, there) {
		r.t.Fatalf("there is %v, not %v", there, c)
	}
}

// checkPictures checks P30.5 and P30.7 of all that were asked for, and of all again when the run is at its end.
func (r *run) checkPictures(changes []effect) {
	for _, p := range r.calls {
		x, ok := p.proc.(*look)
		if !ok || x.proc == nil || p.last < 0 {
			continue
		}
		c := mapAt(changes, p.stamp(x.take.Stamp()))
		want := told{pairs: c.from(p.key, p.most)}
		if p.kind == doRank {
			below, _ := c.index(p.key)
			want = told{count: below}
		}
		if got := p.told(); !reflect.DeepEqual(got, want) {
			r.t.Fatalf("%+v tells %+v, not %+v", p.call, got, want)
		}
	}
	for stamp := range r.memory.Peek(clock) {
		all := mapAt(changes, stamp)
		rows, rank := order.NewRows(list, stamp, 0, 1000), order.NewRank(list, stamp, 3)
		alone(r.t, r.memory, rows, rank)
		below := slices.IndexFunc(append(rows.Pairs(), api.Pair{Key: 3}), func(p api.Pair) bool { return p.Key >= 3 })
		if !slices.Equal(rows.Pairs(), all) || rank.Count() != below {
			r.t.Fatalf("at %d: %v, %d, not %v", stamp, rows.Pairs(), rank.Count(), all)
		}
	}
}

// left are the threads that have calls that have not returned.
func (r *run) left() []int {
	var l []int
	for _, p := range r.calls {
		if p.last < 0 && !slices.Contains(l, p.thread) {
			l = append(l, p.thread)
		}
	}
	return l
}

// allPicks does a run by all picks there are of its threads behind the first one that go at most so many times from one thread, that could have gone on, to another; it tells how many runs these were.
func allPicks(t *testing.T, most, left int, threads [][]call) int {
	t.Helper()
	runs := 0
	var walk func(picks []int, switches int)
	walk = func(picks []int, switches int) {
		r := newRun(t, left, threads)
		r.runner.Run(picks)
		for l := r.left(); len(l) > 0; l = r.left() {
			next, more := l[0], switches
			if len(picks) > 0 && slices.Contains(l, picks[len(picks)-1]) {
				next = picks[len(picks)-1]
				more++
			}
			for _, thread := range l {
				if thread != next && more <= most {
					walk(append(slices.Clone(picks), thread), more)
				}
			}
			picks = append(picks[:len(picks):len(picks)], next)
			r.runner.Pick(next)
			if len(picks) > 1000 {
				t.Fatal("nobody gets on")
			}
		}
		r.check()
		runs++
	}
	walk(nil, 0)
	return runs
}

func ops(l ...api.Op) []call {
	var calls []call
	for _, op := range l {
		calls = append(calls, call{op: op})
	}
	return calls
}

func seekCall(way order.Way, key uint64) []call {
	return []call{{kind: doSeek, way: way, key: key}}
}

// P30.3 to P30.7: all orders of steps of two threads or three, behind what the first list does, with few changes from one to another.
func TestAllPicks(t *testing.T) {
	rows := []call{{kind: doRows, most: 9}}
	for i, c := range []struct {
		most, left int
		threads    [][]call
	}{
		{3, 200, [][]call{nil, ops(putOp(3, 1)), ops(putOp(3, 2))}},
		{2, 200, [][]call{nil, ops(putOp(3, 1)), ops(putOp(5, 2))}},
		{3, 200, [][]call{nil, ops(putOp(3, 1)), ops(getOp(3), getOp(3))}},
		{3, 200, [][]call{nil, ops(putOp(3, 1)), rows}},
		{2, 200, [][]call{ops(putOp(3, 1)), ops(deleteOp(3)), ops(putOp(3, 2))}},
		{2, 200, [][]call{ops(putOp(3, 1)), ops(deleteOp(3)), ops(deleteOp(3))}},
		{2, 200, [][]call{ops(putOp(3, 1)), ops(swapOp(3, 1, 2)), ops(swapOp(3, 1, 4))}},
		{2, 200, [][]call{ops(putOp(3, 1)), ops(putOp(3, 2)), ops(getOp(3), getOp(3))}},
		{2, 200, [][]call{ops(putOp(3, 1)), ops(putOp(3, 2)), ops(putOp(5, 2))}},
		{2, 200, [][]call{ops(putOp(3, 1)), ops(putOp(3, 2), deleteOp(3)), rows}},
		{2, 200, [][]call{ops(putOp(1, 1), putOp(3, 1)), ops(deleteOp(1)), ops(deleteOp(3), putOp(3, 2))}},
		{2, 200, [][]call{ops(putOp(1, 1), putOp(3, 1)), ops(deleteOp(1)), seekCall(order.Before, 3)}},
		{2, 200, [][]call{ops(putOp(1, 1), putOp(3, 1)), ops(deleteOp(3)), seekCall(order.Last, 0)}},
		{2, 200, [][]call{ops(putOp(1, 1), putOp(3, 1), deleteOp(1)), ops(putOp(1, 2)), seekCall(order.First, 0)}},
		{2, 200, [][]call{ops(putOp(1, 1), putOp(3, 1), deleteOp(3)), ops(putOp(3, 2)), seekCall(order.After, 1)}},
		{2, 200, [][]call{ops(putOp(1, 1), putOp(3, 1)), ops(deleteOp(1)), ops(putOp(2, 2))}},
		{2, 200, [][]call{ops(putOp(1, 1), putOp(3, 1)), ops(deleteOp(1), putOp(1, 5)), rows}},
		{1, 200, [][]call{ops(putOp(1, 1), putOp(3, 1)), ops(deleteOp(1)), ops(putOp(2, 2)), ops(deleteOp(3))}},
		{1, 200, [][]call{ops(putOp(3, 1)), ops(putOp(3, 2)), ops(deleteOp(3)), rows}},
		{3, 12, [][]call{nil, ops(putOp(3, 1)), ops(putOp(3, 2))}},
		{2, 15, [][]call{ops(putOp(3, 1)), ops(deleteOp(3)), ops(getOp(3), putOp(3, 2))}},
	} {
		t.Run(strconv.Itoa(i), func(t *testing.T) {
			t.Parallel()
			if runs := allPicks(t, c.most, c.left, c.threads); runs < 40 {
				t.Error("too few runs:", runs)
			}
		})
	}
}

func drawRun(t *testing.T, r *rand.Rand, left int) (*run, int) {
	t.Helper()
	threads := make([][]call, 3+r.Intn(5))
	keys := uint64(1 + r.Intn(6))
	for key := range keys {
		threads[0] = append(threads[0], call{op: putOp(key+1, uint64(r.Intn(2)))})
	}
	for i := 1; i < len(threads); i++ {
		for range r.Intn(8) {
			threads[i] = append(threads[i], drawCall(r, keys))
		}
	}
	return newRun(t, left, threads), len(threads)
}

// P30.3 to P30.7: long runs of many threads, in memories with room and without.
func TestDrawnPicks(t *testing.T) {
	kinds := map[string]int{}
	for seed := range int64(1200) {
		r := rand.New(rand.NewSource(seed))
		left := 20000
		if seed%4 == 0 {
			left = r.Intn(130)
		}
		run, threads := drawRun(t, r, left)
		for !run.runner.Done() {
			thread := r.Intn(threads)
			for range 1 + r.Intn(4)*r.Intn(4) {
				run.runner.Pick(thread)
			}
			if run.runner.Steps() > tooMany {
				t.Fatal("nobody gets on")
			}
		}
		run.check()
		for _, p := range run.calls {
			kinds[kindOf(p.told())]++
		}
	}
	for _, kind := range []string{"", "found", "done", "30", "pair", "pairs", "count"} {
		if kinds[kind] < 200 {
			t.Error("too little has come up:", kind, kinds)
		}
	}
}

// P30.3 to P30.7: threads that stand still for good, wherever they are, hinder nobody, and what is there is still what the changes leave.
func TestStandStill(t *testing.T) {
	pending := 0
	for seed := range int64(1200) {
		r := rand.New(rand.NewSource(seed))
		run, threads := drawRun(t, r, 20000)
		for range r.Intn(250) {
			run.runner.Pick(r.Intn(threads))
		}
		going := r.Intn(threads)
		for picks := 0; slices.Contains(run.left(), going); picks++ {
			run.runner.Pick(going)
			if picks > 5000 {
				t.Fatal("it does not get on")
			}
		}
		pending += len(run.runner.Pending())
		run.check()
	}
	if pending < 1000 {
		t.Error("too few stand still:", pending)
	}
}

// P30.4: the search of package lin finds an order of the operations, too, key by key and of all.
func TestDrawnPicksByLin(t *testing.T) {
	for seed := range int64(300) {
		r := rand.New(rand.NewSource(seed))
		threads := make([][]call, 4)
		for i := range threads {
			for len(threads[i]) < 4 {
				if c := drawCall(r, 3); c.kind == doOp {
					threads[i] = append(threads[i], c)
				}
			}
		}
		run := newRun(t, 20000, append([][]call{nil}, threads...))
		for !run.runner.Done() && run.runner.Steps() < tooMany {
			run.runner.Pick(1 + r.Intn(len(threads)))
		}
		var l []api.Did
		for i, p := range run.calls {
			l = append(l, api.Did{Span: api.Span{Thread: p.thread, Index: i % 4, From: p.first, To: p.last}, Op: p.op, Answer: p.told().answer})
		}
		slices.SortFunc(l, func(a, b api.Did) int { return a.Span.From - b.Span.From })
		if yes, errno := lin.Local(l); !yes || errno != api.OK {
			t.Fatalf("seed %d: %t, %d: %+v", seed, yes, errno, l)
		}
		if _, errno := lin.Find(l, 1); errno != api.OK {
			t.Fatalf("seed %d: %d: %+v", seed, errno, l)
		}
	}
}

// raise lets a key have 1 more; false: it has not been done.
func raise(v *arena.View, tree api.Tree, key uint64) bool {
	for range tooMany {
		get := order.NewOp(tree, getOp(key))
		step.Alone(v, get, tooMany)
		value := get.Answer().Value
		p := order.NewOp(tree, swapOp(key, value, value+1))
		step.Alone(v, p, tooMany)
		if a := p.Answer(); a.Done || a.Errno != api.OK {
			return a.Done
		}
	}
	return false
}

// P30.4, P30.5: by goroutines over a live memory: what was added is there, pictures stay, and a key that one goroutine alone uses is always as that left it.
func TestLive(t *testing.T) {
	const threads, rounds, shared = 8, 60, 4
	m, errno := arena.New(1<<20, true)
	if errno != api.OK {
		t.Fatal(errno)
	}
	m.View(0).Alloc([]uint64{1})
	tree, _ := order.Make(m.View(0), clock)
	for key := range uint64(shared) {
		step.Alone(m.View(0), order.NewOp(tree, putOp(10*key, 0)), tooMany)
	}
	var lost [threads]int
	var stamps [threads][rounds]uint64
	var shown [threads][rounds][]api.Pair
	var wait sync.WaitGroup
	for i := range threads {
		wait.Go(func() {
			v := m.View(i)
			own := uint64(10*(i%shared) + 1 + i)
			for j := range uint64(rounds) {
				if !raise(v, tree, 10*((j+uint64(i))%shared)) {
					lost[i]++
				}
				p := order.NewOp(tree, putOp(own, j))
				s := order.NewSeek(tree, order.After, own-1)
				step.Alone(v, p, tooMany)
				step.Alone(v, s, tooMany)
				if pair, _ := s.Pair(); pair != (api.Pair{Key: own, Value: j}) || p.Answer().Found != (j%2 == 1) {
					lost[i]++
				}
				take := camera.NewTake(clock, api.MaxStamp)
				step.Alone(v, take, 2)
				rows := order.NewRows(tree, take.Stamp(), 0, 1000)
				step.Alone(v, rows, tooMany)
				stamps[i][j], shown[i][j] = take.Stamp(), rows.Pairs()
				if !slices.Contains(rows.Pairs(), api.Pair{Key: own, Value: j}) {
					lost[i]++
				}
				if d := order.NewOp(tree, deleteOp(own)); j%2 == 1 {
					step.Alone(v, d, tooMany)
					if !reflect.DeepEqual(d.Answer(), found(j)) {
						lost[i]++
					}
				}
			}
		})
	}
	wait.Wait()
	if lost != [threads]int{} {
		t.Error("lost:", lost)
	}
	sum := uint64(0)
	for _, pair := range order.Pairs(m, tree) {
		sum += pair.Value
	}
	if l := order.Pairs(m, tree); sum != threads*rounds || len(l) != shared {
		t.Error(sum, l)
	}
	step.Alone(m.View(0), order.NewSeek(tree, order.Last, 0), tooMany)
	if n := order.Linked(m, tree); n != shared {
		t.Error(n, "are linked")
	}
	for i := range threads {
		for j := range rounds {
			rows := order.NewRows(tree, stamps[i][j], 0, 1000)
			step.Alone(m.View(0), rows, tooMany)
			if !slices.Equal(rows.Pairs(), shown[i][j]) {
				t.Fatalf("stamp %d: %v, then %v", stamps[i][j], shown[i][j], rows.Pairs())
			}
		}
	}
}
