package walk_test

import (
	"cmp"
	"math/rand"
	"slices"
	"strconv"
	"sync"
	"testing"

	"shutter/api"
	"shutter/arena"
	"shutter/camera"
	"shutter/step"
	"shutter/trie"
	"shutter/walk"
)

// look is a proc that takes a picture, and then looks at that, or at one that was taken ahead.
type look struct {
	run   *run
	keys  []uint64 // of a Get; a Range of all, if there are none
	early int      // the number of the picture that was taken ahead; beyond the last one: its own
	take  *camera.Take
	from  int // how many accesses there were ahead of the Take,
	to    int // and behind it
	proc  teller
	stamp uint64
	over  bool
}

func (p *look) Step(v *arena.View) bool {
	if p.proc == nil {
		if p.take == nil {
			p.take = camera.NewTake(clock, 1000)
			p.from = p.run.memory.Made()
		}
		if p.take.Step(v) {
			p.to = p.run.memory.Made()
			p.begin()
		}
		return false
	}
	before := trie.Pairs(p.run.memory, tree)
	p.over = p.proc.Step(v)
	// P12.4.
	if behind := trie.Pairs(p.run.memory, tree); !same(before, behind) {
		p.run.t.Fatalf("a walk has made %v of %v", behind, before)
	}
	return p.over
}

func (p *look) begin() {
	p.run.stamps = append(p.run.stamps, p.take.Stamp())
	p.stamp = p.take.Stamp()
	if p.early < len(p.run.stamps) {
		p.stamp = p.run.stamps[p.early]
	}
	p.proc = rangeOf(p.stamp, 0, greatest)
	if len(p.keys) > 0 {
		p.proc = getOf(p.stamp, p.keys...)
	}
}

// write is a proc that changes the trie, or tries to.
type write struct {
	step.Proc
	run      *run
	op       api.Op
	accesses []int // their numbers in the trace
	over     bool
}

func (p *write) Step(v *arena.View) bool {
	p.accesses = append(p.accesses, p.run.memory.Made())
	p.over = p.Proc.Step(v)
	return p.over
}

// run is threads of looks and writes, the pictures that were taken, and what comes of it.
type run struct {
	t      *testing.T
	memory *arena.Memory
	runner *step.Runner
	stamps []uint64
	looks  []*look
	writes []*write
}

// A call is a Put, Delete or Swap, a look at keys (MultiGet), or at all (Range). Its Handle is the number of a picture that was taken ahead.
func (r *run) procOf(op api.Op) step.Proc {
	if op.Kind == api.MultiGet || op.Kind == api.Range {
		p := &look{run: r, keys: op.Keys, early: int(op.Handle)}
		r.looks = append(r.looks, p)
		return p
	}
	p := &write{run: r, op: op}
	switch op.Kind {
	case api.Put:
		p.Proc = trie.NewPut(tree, op.Key, op.Value)
	case api.Delete:
		p.Proc = trie.NewRemove(tree, op.Key)
	default:
		p.Proc = trie.NewSwap(tree, op.Key, op.Old, op.Value)
	}
	r.writes = append(r.writes, p)
	return p
}

// newRun has done what its first thread asks for, and nothing of the others.
func newRun(t *testing.T, cells int, threads [][]api.Op) *run {
	t.Helper()
	m, errno := arena.New(cells, false)
	if errno != api.OK {
		t.Fatal(errno)
	}
	trie.Make(m.View(9))
	r := &run{t: t, memory: m}
	var procs [][]step.Proc
	for _, ops := range threads {
		var l []step.Proc
		for _, op := range ops {
			l = append(l, r.procOf(op))
		}
		procs = append(procs, l)
	}
	r.runner, errno = step.New(m, procs)
	if errno != api.OK {
		t.Fatal(errno)
	}
	for r.runner.Pick(0) {
	}
	return r
}

// change is a write that was done: when its version was put there, and with which stamp.
type change struct {
	at    int
	stamp uint64
	*write
}

// changes are the writes that were done, in their order. (Changes of one key are put there one behind the other.)
func (r *run) changes() []change {
	objects := map[uint64]int{}
	trace := r.memory.Trace()
	for _, a := range trace {
		if a.Kind == api.Alloc && len(a.Values) == api.Fan {
			for digit := range uint64(api.Fan) {
				objects[a.Addr+digit] = 1
			}
		}
	}
	var l []change
	for _, p := range r.writes {
		for _, at := range p.accesses {
			if a := trace[at]; a.Kind == api.Cas && a.Ok && objects[a.Addr] == 1 {
				l = append(l, change{at, r.memory.Peek(a.B + 1), p})
			}
		}
	}
	slices.SortFunc(l, func(a, b change) int { return a.at - b.at })
	return l
}

// mapAt is what those changes leave that have stamps not above one, by rising keys.
func mapAt(l []change, stamp uint64) []api.Pair {
	m := map[uint64]uint64{}
	for _, c := range l {
		if c.stamp > stamp {
			continue
		}
		if m[c.op.Key] = c.op.Value; c.op.Kind == api.Delete {
			delete(m, c.op.Key)
		}
	}
	var out []api.Pair
	for key, value := range m {
		out = append(out, api.Pair{Key: key, Value: value})
	}
	slices.SortFunc(out, func(a, b api.Pair) int { return cmp.Compare(a.Key, b.Key) })
	return out
}

// only are the pairs of keys, in their order.
func only(l []api.Pair, keys []uint64) []api.Pair {
	var out []api.Pair
	for _, key := range keys {
		if i := slices.IndexFunc(l, func(p api.Pair) bool { return p.Key == key }); i >= 0 {
			out = append(out, l[i])
		}
	}
	return out
}

// check checks P12.2 and P12.3 of a run that is at its end, and tells how many pairs its looks have told.
func (r *run) check(keys []uint64) int {
	changes := r.changes()
	told := 0
	for _, p := range r.looks {
		want := mapAt(changes, p.stamp)
		if len(p.keys) > 0 {
			want = only(want, p.keys)
		}
		if got := p.proc.Pairs(); !same(got, want) {
			r.t.Fatalf("a picture of %d shows %v, not %v", p.stamp, got, want)
		}
		r.checkTimes(p, changes)
		told += len(want)
	}
	for _, stamp := range r.stamps {
		want := mapAt(changes, stamp)
		lo, hi := min(keys[0], keys[1]), max(keys[0], keys[1])
		all, some, get := rangeOf(stamp, 0, greatest), rangeOf(stamp, lo, hi), getOf(stamp, keys...)
		do(r.t, r.memory, all, some, get)
		part := slices.DeleteFunc(slices.Clone(want), func(p api.Pair) bool { return p.Key < lo || p.Key > hi })
		if !same(all.Pairs(), want) || !same(some.Pairs(), part) || !same(get.Pairs(), only(want, keys)) {
			r.t.Fatalf("behind the run a picture of %d shows %v, %v, %v, not %v", stamp, all.Pairs(), some.Pairs(), get.Pairs(), want)
		}
	}
	if got, want := trie.Pairs(r.memory, tree), mapAt(changes, greatest); !same(got, want) {
		r.t.Fatalf("pairs %v, not %v", got, want)
	}
	return told
}

// checkTimes checks, as E2 says it, that a picture has every write that returned ahead of it, and none that began behind it.
func (r *run) checkTimes(p *look, changes []change) {
	for _, c := range changes {
		first, last := c.accesses[0], c.accesses[len(c.accesses)-1]
		if has := c.stamp <= p.take.Stamp(); last < p.from && !has || first >= p.to && has {
			r.t.Fatalf("the picture %d, from %d to %d, and a write of the stamp %d, from %d to %d", p.take.Stamp(), p.from, p.to, c.stamp, first, last)
		}
	}
}

// own is the Handle of a look that is no other one's.
const own = 1000

func putOp(key, value uint64) api.Op { return api.Op{Kind: api.Put, Key: key, Value: value} }
func removeOp(key uint64) api.Op     { return api.Op{Kind: api.Delete, Key: key} }
func swapOp(key, old, now uint64) api.Op {
	return api.Op{Kind: api.Swap, Key: key, Old: old, Value: now}
}
func getOp(keys ...uint64) api.Op {
	return api.Op{Kind: api.MultiGet, Keys: keys, Handle: own}
}

// left are the threads that have calls that have not returned.
func (r *run) left(threads [][]api.Op) []int {
	counts := make([]int, len(threads))
	for _, event := range r.runner.Events() {
		if event.Return {
			counts[event.Thread]++
		}
	}
	var l []int
	for thread, ops := range threads {
		if counts[thread] < len(ops) {
			l = append(l, thread)
		}
	}
	return l
}

// allPicks does a run by all picks there are of its threads behind the first one that go at most so many times from one thread, that could have gone on, to another; it tells how many runs these were.
func allPicks(t *testing.T, most int, threads [][]api.Op, keys []uint64) int {
	t.Helper()
	runs := 0
	var walk func(picks []int, switches int)
	walk = func(picks []int, switches int) {
		r := newRun(t, 400, threads)
		r.runner.Run(picks)
		for l := r.left(threads); len(l) > 0; l = r.left(threads) {
			next, more := l[0], switches
			if len(picks) > 0 && slices.Contains(l, picks[len(picks)-1]) {
				next = picks[len(picks)-1]
				more++
			}
			for _, thread := range l {
				if thread != next && more <= most {
					walk(append(slices.Clone(picks), thread), more)
				}
			}
			picks = append(picks[:len(picks):len(picks)], next)
			r.runner.Pick(next)
		}
		r.check(keys)
		runs++
	}
	walk(nil, 0)
	return runs
}

// P12.2 to P12.4: all orders of steps of two threads, behind what the first list does.
func TestAllPicks(t *testing.T) {
	a, b := keyOf(t, 4, 1), keyOf(t, 4, 2)
	keys := []uint64{a, b}
	for i, threads := range [][][]api.Op{
		{nil, {putOp(a, 1)}, {getOp(a)}},
		{nil, {putOp(a, 1), putOp(a, 2)}, {getOp(a)}},
		{{putOp(a, 1)}, {putOp(a, 2)}, {getOp(a)}},
		{{putOp(a, 1)}, {removeOp(a)}, {getOp(a, a)}},
		{{putOp(a, 1)}, {putOp(b, 2)}, {getOp(b, a)}},
		{{putOp(a, 1)}, {swapOp(a, 1, 2)}, {getOp(a)}},
		{{putOp(a, 1)}, {swapOp(a, 1, 2)}, {getOp(a)}, {getOp(a)}},
	} {
		t.Run(strconv.Itoa(i), func(t *testing.T) {
			t.Parallel()
			most := 4
			if len(threads[0]) > 0 {
				most = 6 - len(threads)
			}
			if runs := allPicks(t, most, threads, keys); runs < 80 {
				t.Error("too few runs:", runs)
			}
		})
	}
}

func drawOp(r *rand.Rand, keys []uint64) api.Op {
	key := keys[r.Intn(len(keys))]
	early := uint64(r.Intn(12))
	switch r.Intn(10) {
	case 0:
		return api.Op{Kind: api.Range, Handle: early}
	case 1, 2:
		return api.Op{Kind: api.MultiGet, Keys: []uint64{key, keys[0], key}, Handle: early}
	case 3, 4:
		return removeOp(key)
	case 5, 6:
		return swapOp(key, uint64(r.Intn(3)), uint64(r.Intn(3)))
	}
	return putOp(key, uint64(r.Intn(3)))
}

// P12.2 to P12.4: long runs of many threads; looks at pictures of their own, and at such as were taken ahead.
func TestDrawnPicks(t *testing.T) {
	told := 0
	for seed := range int64(200) {
		r := rand.New(rand.NewSource(seed))
		keys := drawKeys(r)
		threads := make([][]api.Op, 2+r.Intn(5))
		for i := range threads {
			for range r.Intn(10) {
				threads[i] = append(threads[i], drawOp(r, keys))
			}
		}
		run := newRun(t, 20000, threads)
		for !run.runner.Done() {
			thread := r.Intn(len(threads))
			for range 1 + r.Intn(4)*r.Intn(4) {
				run.runner.Pick(thread)
			}
		}
		told += run.check(keys)
	}
	if told < 500 {
		t.Error("too little has come up:", told)
	}
}

// P12.2, P12.4: a Range while others put and take away tells of the picture, at whatever step they come.
func TestRangeInBetween(t *testing.T) {
	a, b, c := keyOf(t, 4, 1), keyOf(t, 4, 2), keyOf(t, 40)
	for steps := range 150 {
		m := newTrie(t)
		do(t, m, put(a, 1), put(c, 3), take())
		p := rangeOf(1, 0, greatest)
		step.Alone(m.View(0), p, steps)
		do(t, m, put(b, 2), put(c, 4), remove(a), put(keyOf(t, 4, 1, 1), 5), put(keyOf(t, 50), 6))
		do(t, m, p)
		want := only(pairs(a, 1, c, 3), []uint64{min(a, c), max(a, c)})
		if !same(p.Pairs(), want) {
			t.Errorf("behind %d steps: %v, not %v", steps, p.Pairs(), want)
		}
	}
}

// P12.2: by goroutines over a live memory: pictures stay, and tell of writes that returned ahead.
func TestLive(t *testing.T) {
	const threads, rounds = 8, 20
	m, errno := arena.New(1<<18, true)
	if errno != api.OK {
		t.Fatal(errno)
	}
	tree, _ := trie.Make(m.View(0))
	var owns [threads]uint64
	for i := range owns {
		owns[i] = keyOf(t, 4, 1+i%2, i)
	}
	var stamps [threads][rounds]uint64
	var shown [threads][rounds][]api.Pair
	var wait sync.WaitGroup
	for i := range threads {
		wait.Go(func() {
			v := m.View(i)
			for j := range rounds {
				step.Alone(v, trie.NewPut(tree, owns[i], uint64(j)), 1<<20)
				p := camera.NewTake(tree.Camera, api.MaxStamp)
				step.Alone(v, p, 2)
				r := walk.NewRange(tree, p.Stamp(), 0, greatest)
				step.Alone(v, r, 1<<20)
				stamps[i][j], shown[i][j] = p.Stamp(), r.Pairs()
			}
		})
	}
	wait.Wait()
	v := m.View(0)
	for i := range threads {
		for j := range rounds {
			r, g := walk.NewRange(tree, stamps[i][j], 0, greatest), walk.NewGet(tree, stamps[i][j], owns[:])
			step.Alone(v, r, 1<<20)
			step.Alone(v, g, 1<<20)
			if !same(r.Pairs(), shown[i][j]) || !same(g.Pairs(), only(r.Pairs(), owns[:])) {
				t.Fatalf("stamp %d: %v, then %v, %v", stamps[i][j], shown[i][j], r.Pairs(), g.Pairs())
			}
			if l := only(r.Pairs(), owns[i:i+1]); len(l) != 1 || l[0].Value < uint64(j) {
				t.Fatalf("stamp %d: %v, behind a Put of %d", stamps[i][j], l, j)
			}
		}
	}
}
