package trie_test

import (
	"math/rand"
	"reflect"
	"slices"
	"strconv"
	"sync"
	"testing"

	"shutter/api"
	"shutter/arena"
	"shutter/camera"
	"shutter/lin"
	"shutter/mix"
	"shutter/model"
	"shutter/step"
	"shutter/trie"
)

// watched is a proc whose steps are looked at.
type watched struct {
	step.Proc
	op          api.Op // of kind 0: a Take
	thread      int
	run         *run
	first, last int   // its first and last step, -1 ahead of them
	accesses    []int // their numbers in the trace
}

func (p *watched) Step(v *arena.View) bool {
	r := p.run
	if p.first < 0 {
		p.first = r.clock
	}
	before := r.memory.Made()
	done := p.Proc.Step(v)
	if r.memory.Made() > before {
		p.accesses = append(p.accesses, before)
	}
	if done {
		p.last = r.clock
	}
	r.clock++
	r.look()
	return done
}

func (p *watched) answer() api.Answer {
	return p.Proc.(teller).Answer()
}

// run is threads of operations on a trie, and what is looked at of it.
type run struct {
	t        *testing.T
	memory   *arena.Memory
	runner   *step.Runner
	procs    []*watched
	clock    int
	branches map[uint64]uint64 // the words of branches by the objects in which they lie
}

// newRun has done what its first thread asks for, and nothing of the others; its memory has so many cells left behind the trie.
func newRun(t *testing.T, left int, threads [][]api.Op) *run {
	t.Helper()
	m, errno := arena.New(max(free+left, api.MinCells), false)
	if errno != api.OK {
		t.Fatal(errno)
	}
	trie.Make(m.View(9))
	fill(m, left)
	r := &run{t: t, memory: m, branches: map[uint64]uint64{}}
	var procs [][]step.Proc
	for thread, ops := range threads {
		var l []step.Proc
		for _, op := range ops {
			p := &watched{Proc: procOf(op), op: op, thread: thread, run: r, first: -1, last: -1}
			r.procs = append(r.procs, p)
			l = append(l, p)
		}
		procs = append(procs, l)
	}
	r.runner, errno = step.New(m, procs)
	if errno != api.OK {
		t.Fatal(errno)
	}
	for r.runner.Pick(0) {
	}
	return r
}

func procOf(op api.Op) step.Proc {
	switch op.Kind {
	case api.Get:
		return trie.NewFind(tree, op.Key)
	case api.Put:
		return trie.NewPut(tree, op.Key, op.Value)
	case api.Delete:
		return trie.NewRemove(tree, op.Key)
	case api.Swap:
		return trie.NewSwap(tree, op.Key, op.Old, op.Value)
	}
	return camera.NewTake(clock, 1000)
}

// look checks P11.3 of what a step has done.
func (r *run) look() {
	leaves := map[uint64]uint64{}
	r.lookAt(root, 0, nil, leaves)
}

// lookAt goes through a branch; digits is the way to it, leaves has the keys that were come to.
func (r *run) lookAt(branch uint64, level int, digits []int, leaves map[uint64]uint64) {
	for digit := range api.Fan {
		object := branch + uint64(digit)
		version := r.memory.Peek(object)
		if version == 0 {
			continue
		}
		child, way := r.memory.Peek(version), append(digits[:level:level], digit)
		if before, ok := r.branches[object]; ok && before != child {
			r.t.Fatalf("the branch %d has become %d", before, child)
		}
		switch {
		case child == 0:
		case child%2 == 0:
			r.branches[object] = child
			r.lookAt(child/2, level+1, way, leaves)
		default:
			key := r.memory.Peek(child / 2)
			if other, twice := leaves[key]; twice {
				r.t.Fatalf("the key %d lies in %d and %d", key, other, object)
			}
			leaves[key] = object
			if !slices.Equal(mix.Digits(mix.Mix(key))[:level+1], way) {
				r.t.Fatalf("the key %d lies at %d", key, way)
			}
		}
	}
}

// moments are the times of a run's changes and readings, as numbers of accesses.
type moments struct {
	trace   []api.Access
	stamped map[uint64]int // of each version the access that read its stamp
	objects map[uint64]int // addresses of objects
}

func (r *run) moments() moments {
	o := moments{trace: r.memory.Trace(), stamped: map[uint64]int{}, objects: map[uint64]int{}}
	last := map[int]int{} // of each thread its last access
	for i, a := range o.trace {
		switch {
		case a.Kind == api.Alloc && len(a.Values) == api.Fan && a.Addr != 0:
			for digit := range uint64(api.Fan) {
				o.objects[a.Addr+digit] = 1
			}
		case a.Kind == api.Cas && a.Ok && a.A == 0 && o.objects[a.Addr] == 0 && a.Addr != clock:
			o.stamped[a.Addr-1] = last[a.Thread]
		}
		last[a.Thread] = i
	}
	return o
}

// of is when a call took effect: a change when its version's stamp was read, all else when the object in which it ended was read, but not ahead of that object's last change.
func (o moments) of(p *watched) int {
	for _, i := range slices.Backward(p.accesses) {
		a := o.trace[i]
		if o.objects[a.Addr] == 0 || p.answer().Errno != api.OK {
			continue
		}
		if a.Kind == api.Cas && a.Ok {
			return 2 * o.stamped[a.B]
		}
		if a.Kind == api.Load {
			return 2*max(i, o.stamped[a.Got]) + 1
		}
	}
	return 2 * p.accesses[len(p.accesses)-1]
}

// dids is the run's history without its Takes, by the first steps, and its calls.
func (r *run) dids() ([]api.Did, []*watched) {
	calls := slices.DeleteFunc(slices.Clone(r.procs), func(p *watched) bool { return p.op.Kind == 0 })
	slices.SortFunc(calls, func(a, b *watched) int { return a.first - b.first })
	counts := map[int]int{}
	var l []api.Did
	for _, p := range calls {
		span := api.Span{Thread: p.thread, Index: counts[p.thread], From: p.first, To: p.last}
		counts[p.thread]++
		l = append(l, api.Did{Span: span, Op: p.op, Answer: p.answer()})
	}
	return l, calls
}

// check checks P11.4 and P11.5 of a run that is at its end.
func (r *run) check() {
	l, calls := r.dids()
	o := r.moments()
	order := make([]int, len(l))
	times := make([]int, len(l))
	for i, p := range calls {
		order[i], times[i] = i, o.of(p)
	}
	slices.SortStableFunc(order, func(a, b int) int { return times[a] - times[b] })
	if errno := lin.Witness(l, order, 1); errno != api.OK {
		r.t.Fatalf("%d: the order %d does not show %+v", errno, order, l)
	}
	m, _ := model.New(1)
	for _, i := range order {
		m.Take(l[i].Op, l[i].Answer)
	}
	if got, want := trie.Pairs(r.memory, tree), m.Content(); len(got) != len(want) || len(want) > 0 && !reflect.DeepEqual(got, want) {
		r.t.Fatalf("pairs %v, not %v", got, want)
	}
}

// allPicks does a run by all picks there are of its threads behind the first one that go at most so many times from one thread, that could have gone on, to another; it tells how many runs these were.
func allPicks(t *testing.T, most, left int, threads [][]api.Op) int {
	t.Helper()
	runs := 0
	var walk func(picks []int, switches int)
	walk = func(picks []int, switches int) {
		r := newRun(t, left, threads)
		r.runner.Run(picks)
		for !r.runner.Done() {
			next, others := r.choices(picks, len(threads))
			for _, thread := range others {
				if more := switches + r.switched(picks); more <= most {
					walk(append(slices.Clone(picks), thread), more)
				}
			}
			picks = append(picks[:len(picks):len(picks)], next)
			r.runner.Pick(next)
		}
		r.check()
		runs++
	}
	walk(nil, 0)
	return runs
}

// choices are the thread that goes on, and the others that could: the last one goes on, if it has a call left.
func (r *run) choices(picks []int, threads int) (int, []int) {
	var l []int
	for thread := range threads {
		if r.isLeft(thread) {
			l = append(l, thread)
		}
	}
	at := 0
	if len(picks) > 0 {
		at = max(slices.Index(l, picks[len(picks)-1]), 0)
	}
	return l[at], slices.Delete(slices.Clone(l), at, at+1)
}

// switched is 1, if another thread's pick would be a switch.
func (r *run) switched(picks []int) int {
	if len(picks) > 0 && r.isLeft(picks[len(picks)-1]) {
		return 1
	}
	return 0
}

// isLeft tells whether a thread has a call that has not returned.
func (r *run) isLeft(thread int) bool {
	return slices.ContainsFunc(r.procs, func(p *watched) bool { return p.thread == thread && p.last < 0 })
}

func getOp(key uint64) api.Op        { return api.Op{Kind: api.Get, Key: key} }
func putOp(key, value uint64) api.Op { return api.Op{Kind: api.Put, Key: key, Value: value} }
func removeOp(key uint64) api.Op     { return api.Op{Kind: api.Delete, Key: key} }
func swapOp(key, old, now uint64) api.Op {
	return api.Op{Kind: api.Swap, Key: key, Old: old, Value: now}
}
func takeOp() api.Op { return api.Op{} }

// P11.3 to P11.6: all orders of steps of two threads or three, behind what the first list does.
func TestAllPicks(t *testing.T) {
	a, b := keyOf(t, 4, 1), keyOf(t, 4, 2)
	for i, c := range []struct {
		most    int
		left    int
		threads [][]api.Op
	}{
		{4, 200, [][]api.Op{nil, {putOp(a, 1)}, {putOp(a, 2)}}},
		{4, 200, [][]api.Op{nil, {putOp(a, 1)}, {putOp(b, 2)}}},
		{4, 200, [][]api.Op{nil, {putOp(a, 1)}, {getOp(a), getOp(a)}}},
		{3, 200, [][]api.Op{nil, {putOp(a, 1)}, {removeOp(a)}, {takeOp()}}},
		{4, 200, [][]api.Op{{putOp(a, 1)}, {putOp(b, 2)}, {getOp(a)}}},
		{4, 200, [][]api.Op{{putOp(a, 1)}, {removeOp(a)}, {getOp(a)}}},
		{4, 200, [][]api.Op{{putOp(a, 1)}, {swapOp(a, 1, 1)}, {getOp(a)}}},
		{3, 200, [][]api.Op{{putOp(a, 1)}, {swapOp(a, 1, 2)}, {swapOp(a, 1, 3)}}},
		{3, 200, [][]api.Op{{putOp(a, 1)}, {swapOp(a, 1, 2)}, {removeOp(a)}}},
		{3, 200, [][]api.Op{{putOp(a, 1)}, {putOp(a, 2)}, {putOp(b, 3)}}},
		{3, 200, [][]api.Op{{putOp(a, 1)}, {removeOp(a)}, {putOp(b, 3)}}},
		{4, 200, [][]api.Op{{putOp(a, 1)}, {removeOp(a)}, {removeOp(a)}}},
		{4, 5, [][]api.Op{nil, {putOp(a, 1)}, {putOp(a, 2), getOp(a)}}},
		{4, 8, [][]api.Op{nil, {putOp(a, 1)}, {putOp(b, 2)}}},
		{4, 8, [][]api.Op{{putOp(a, 1)}, {removeOp(a)}, {putOp(a, 2)}}},
		{2, 200, [][]api.Op{{putOp(a, 1)}, {removeOp(a)}, {putOp(b, 2)}, {getOp(a)}}},
	} {
		t.Run(strconv.Itoa(i), func(t *testing.T) {
			t.Parallel()
			if runs := allPicks(t, c.most, c.left, c.threads); runs < 80 {
				t.Error("too few runs:", runs)
			}
		})
	}
}

func drawOp(r *rand.Rand, keys []uint64) api.Op {
	key := keys[r.Intn(len(keys))]
	switch r.Intn(12) {
	case 0:
		return takeOp()
	case 1, 2, 3:
		return getOp(key)
	case 4, 5:
		return removeOp(key)
	case 6, 7:
		return swapOp(key, uint64(r.Intn(3)), uint64(r.Intn(3)))
	}
	return putOp(key, uint64(r.Intn(3)))
}

// P11.3 to P11.6: long runs of many threads whose keys meet at all levels, in memories with room and without.
func TestDrawnPicks(t *testing.T) {
	kinds := map[string]int{}
	for seed := range int64(500) {
		r := rand.New(rand.NewSource(seed))
		keys := drawKeys(r)
		threads := make([][]api.Op, 2+r.Intn(5))
		for i := range threads {
			for range r.Intn(10) {
				threads[i] = append(threads[i], drawOp(r, keys))
			}
		}
		left := 20000
		if seed%4 == 0 {
			left = r.Intn(700)
		}
		run := newRun(t, left, threads)
		for !run.runner.Done() {
			thread := r.Intn(len(threads))
			for range 1 + r.Intn(4)*r.Intn(4) {
				run.runner.Pick(thread)
			}
		}
		run.check()
		for _, p := range run.procs {
			if p.op.Kind != 0 {
				kinds[kindOf(p.answer())]++
			}
		}
	}
	if kinds["30"] < 50 || kinds["done"] < 50 || kinds["found"] < 500 || kinds["5"] > 0 {
		t.Error("too little, or too much, has come up:", kinds)
	}
}

// P11.4: the search of package lin finds an order, too, key by key.
func TestDrawnPicksByLin(t *testing.T) {
	for seed := range int64(200) {
		r := rand.New(rand.NewSource(seed))
		keys := drawKeys(r)
		threads := make([][]api.Op, 4)
		for i := range threads {
			for range 4 {
				op := drawOp(r, keys[:3])
				threads[i] = append(threads[i], op)
			}
		}
		run := newRun(t, 20000, threads)
		for !run.runner.Done() {
			run.runner.Pick(r.Intn(len(threads)))
		}
		l, _ := run.dids()
		if yes, errno := lin.Local(l); !yes || errno != api.OK {
			t.Fatalf("seed %d: %t, %d: %+v", seed, yes, errno, l)
		}
		if _, errno := lin.Find(l, 1); errno != api.OK {
			t.Fatalf("seed %d: %d: %+v", seed, errno, l)
		}
	}
}

// P11.4, P11.5: by goroutines over a live memory: what was added is there, and a key that one goroutine alone uses is always as that left it.
func TestLive(t *testing.T) {
	const threads, rounds = 8, 100
	m, errno := arena.New(1<<18, true)
	if errno != api.OK {
		t.Fatal(errno)
	}
	tree, _ := trie.Make(m.View(0))
	keys := []uint64{keyOf(t, 4, 1, 1), keyOf(t, 4, 1, 2), keyOf(t, 4, 2, 1), keyOf(t, 5)}
	var owns [threads]uint64
	for i := range owns {
		owns[i] = keyOf(t, 4, 1, 3, i)
	}
	var sums, lost [threads]int
	var wait sync.WaitGroup
	for i := range threads {
		wait.Go(func() {
			v := m.View(i)
			own := owns[i]
			for j := range uint64(rounds) {
				key := keys[(int(j)+i)%len(keys)]
				sums[i] += raise(v, tree, key)
				p, f := trie.NewPut(tree, own, j), trie.NewFind(tree, own)
				step.Alone(v, p, 1<<20)
				step.Alone(v, f, 1<<20)
				if p.Answer().Found != (j%2 == 1) || !reflect.DeepEqual(f.Answer(), found(j)) {
					lost[i]++
				}
				if r := trie.NewRemove(tree, own); j%2 == 1 {
					step.Alone(v, r, 1<<20)
					if !reflect.DeepEqual(r.Answer(), found(j)) {
						lost[i]++
					}
				}
			}
		})
	}
	wait.Wait()
	sum := 0
	for i := range threads {
		sum += sums[i]
		if lost[i] != 0 {
			t.Error("lost:", lost)
		}
	}
	for _, pair := range trie.Pairs(m, tree) {
		sum -= int(pair.Value)
	}
	if l := trie.Pairs(m, tree); sum != 0 || len(l) != len(keys) {
		t.Error(sum, l)
	}
}

// raise lets a key have 1 more, or 0, and tells by how much that has changed what it had.
func raise(v *arena.View, tree api.Tree, key uint64) int {
	for {
		f := trie.NewFind(tree, key)
		step.Alone(v, f, 1<<20)
		if !f.Answer().Found {
			p := trie.NewPut(tree, key, 0)
			step.Alone(v, p, 1<<20)
			if p.Answer().Found {
				return -int(p.Answer().Value)
			}
			continue
		}
		s := trie.NewSwap(tree, key, f.Answer().Value, f.Answer().Value+1)
		step.Alone(v, s, 1<<20)
		if s.Answer().Done {
			return 1
		}
	}
}
