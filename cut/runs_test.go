package cut_test

import (
	"math/rand"
	"slices"
	"strconv"
	"sync"
	"testing"

	"shutter/announce"
	"shutter/api"
	"shutter/arena"
	"shutter/camera"
	"shutter/cut"
	"shutter/handle"
	"shutter/step"
	"shutter/trie"
	"shutter/vcas"
	"shutter/walk"
	"shutter/word"
)

// look is a proc that asks for all of a handle's picture: an Open, a walk.Range, a Close.
type look struct {
	handle uint64
	open   *handle.Open
	walk   *walk.Range
	close  *handle.Close
	told   []api.Pair // nil, if the handle has not held
	held   bool
}

func (p *look) Step(v *arena.View) bool {
	switch {
	case p.open == nil:
		p.open = handle.NewOpen(slots, p.handle)
		p.open.Step(v)
		p.walk = walk.NewRange(tree, p.open.Stamp(), 0, greatest)
		return p.open.Errno() != api.OK
	case p.close == nil:
		if p.walk.Step(v) {
			p.close = handle.NewClose(slots, p.handle, p.open.Stamp())
		}
		return false
	}
	p.close.Step(v)
	if p.held = p.close.Errno() == api.OK; p.held {
		p.told = p.walk.Pairs()
	}
	return true
}

// watched is a proc whose steps are looked at. It is made when it begins; its op's Handle 0 is the last one that was told.
type watched struct {
	step.Proc
	run  *run
	op   api.Op
	now  uint64 // a Snapshot's: what its last Load of the camera told; 0 ahead of the one that counts
	asks int    // how often it has loaded the camera
	over bool
}

func (p *watched) Step(v *arena.View) bool {
	r := p.run
	if p.Proc == nil {
		p.begin()
	}
	from := r.memory.Made()
	p.over = p.Proc.Step(v)
	if p.op.Kind == api.Collect {
		r.collects = append(r.collects, from)
	} else if p.op.Kind != api.Range && r.memory.Made() > from {
		r.note(p, r.memory.Trace()[from])
	}
	if p.over {
		r.end(p)
	}
	r.look()
	return p.over
}

func (p *watched) begin() {
	r, op := p.run, p.op
	if op.Handle == 0 && len(r.handles) > 0 {
		op.Handle = r.handles[len(r.handles)-1]
	}
	switch op.Kind {
	case api.Put:
		p.Proc = trie.NewPut(tree, op.Key, op.Value)
	case api.Delete:
		p.Proc = trie.NewRemove(tree, op.Key)
	case api.Swap:
		p.Proc = trie.NewSwap(tree, op.Key, op.Old, op.Value)
	case api.Snapshot:
		p.Proc = shoot()
		r.underWay = append(r.underWay, p)
	case api.Release:
		p.Proc = announce.NewRelease(slots, op.Handle)
	case api.Range:
		p.Proc = &look{handle: op.Handle}
	case api.Collect:
		p.Proc = cut.NewCollect(tree, slots)
	default:
		p.Proc = camera.NewTake(clock, slots.Most)
	}
}

// run is threads of calls on a trie with slots, and all versions that there ever were.
type run struct {
	t        *testing.T
	memory   *arena.Memory
	runner   *step.Runner
	threads  [][]*watched
	handles  []uint64            // that were told
	underWay []*watched          // the Snapshots that have begun
	rows     map[uint64][]uint64 // of each object the addresses of its versions, the oldest first
	objectOf map[uint64]uint64   // of each version its object
	filled   []uint64            // the objects that have versions
	pictures map[uint64][]api.Pair
	collects []int // the numbers, in the trace, of accesses of Collects
	counted  uint64
	looked   int // how many looks were compared with others of their handle
}

func newRun(t *testing.T, cells int, threads [][]api.Op) *run {
	t.Helper()
	m, errno := arena.New(cells, false)
	if errno != api.OK {
		t.Fatal(errno)
	}
	trie.Make(m.View(9))
	announce.Make(m.View(9), clock, slots.Count, slots.Most)
	r := &run{t: t, memory: m, rows: map[uint64][]uint64{}, objectOf: map[uint64]uint64{}, pictures: map[uint64][]api.Pair{}}
	for i := range uint64(api.Fan) {
		r.rows[root+i] = nil
	}
	var procs [][]step.Proc
	for _, ops := range threads {
		var l []step.Proc
		var own []*watched
		for _, op := range ops {
			p := &watched{run: r, op: op}
			l, own = append(l, p), append(own, p)
		}
		procs, r.threads = append(procs, l), append(r.threads, own)
	}
	r.runner, errno = step.New(m, procs)
	if errno != api.OK {
		t.Fatal(errno)
	}
	return r
}

// note writes down what an access did: versions that have come, and what a Snapshot has read.
func (r *run) note(p *watched, a api.Access) {
	if a.Kind == api.Alloc && len(a.Values) == api.Fan && a.Addr != 0 {
		for i, version := range a.Values {
			r.install(a.Addr+uint64(i), version)
		}
	}
	if _, isObject := r.rows[a.Addr]; isObject && a.Kind == api.Cas && a.Ok {
		r.install(a.Addr, a.B)
	}
	if p.op.Kind == api.Snapshot && a.Kind == api.Load && a.Addr == clock {
		if p.asks++; p.asks == 2 {
			p.now = a.Got
		}
	}
}

// install writes down that an object has a new version, or, with 0, that it is one.
func (r *run) install(object, version uint64) {
	row := r.rows[object]
	if version != 0 {
		if len(row) == 0 {
			r.filled = append(r.filled, object)
		}
		row = append(row, version)
		r.objectOf[version] = object
	}
	r.rows[object] = row
}

// checkStores checks P15.6: a Collect loads, or stores the address of an older version of the same object, or 0.
func (r *run) checkStores() {
	trace := r.memory.Trace()
	for _, at := range r.collects {
		a := trace[at]
		if a.Kind == api.Load {
			continue
		}
		object, ok := r.objectOf[a.Addr-2]
		row := r.rows[object]
		newer, older := slices.Index(row, a.Addr-2), slices.Index(row, a.A)
		if a.Kind != api.Store || !ok || a.A != 0 && (older < 0 || older >= newer) {
			r.t.Fatalf("a Collect made %+v; the object's versions are %d", a, row)
		}
	}
}

// end looks at what a proc that has returned told.
func (r *run) end(p *watched) {
	switch q := p.Proc.(type) {
	case *announce.Snapshot:
		if q.Errno() == api.OK {
			r.handles = append(r.handles, q.Handle())
		}
	case *cut.Collect:
		r.counted += q.Count()
	case *look:
		// All looks at one handle tell the same.
		if ahead, ok := r.pictures[q.handle]; ok && q.held {
			if !slices.Equal(ahead, q.told) {
				r.t.Fatalf("a look at %d tells %v, and ahead %v", q.handle, q.told, ahead)
			}
			r.looked++
		} else if q.held {
			r.pictures[q.handle] = q.told
		}
	}
}

// needed are the stamps that somebody can ask for: those of handles that hold, those that a Snapshot under way has read, and those of pictures that are still to be taken, of which the first is that of now.
func (r *run) needed() []uint64 {
	l := []uint64{r.memory.Peek(clock)}
	for _, s := range announce.Slots(r.memory, slots) {
		if s.Kind == api.Exact {
			l = append(l, s.Stamp)
		}
	}
	for _, p := range r.underWay {
		if !p.over && p.now != 0 {
			l = append(l, p.now)
		}
	}
	return l
}

// look checks P15.4: of each object, at each stamp that somebody can ask for, the newest version that is not newer is still there. And P15.6: the newest one is.
func (r *run) look() {
	stamps := r.needed()
	for _, object := range r.filled {
		row := r.rows[object]
		if r.memory.Peek(object) != row[len(row)-1] {
			r.t.Fatalf("the newest version of %d is %d, not %d", object, r.memory.Peek(object), row[len(row)-1])
		}
		for _, stamp := range stamps {
			if got, want := r.at(object, stamp), r.wasAt(row, stamp); got != want {
				r.t.Fatalf("the version of %d at %d is that at %d, not that at %d", object, stamp, got, want)
			}
		}
	}
}

// at is the newest version whose stamp was told and is not above one, of those that can be come to.
func (r *run) at(object, stamp uint64) uint64 {
	version := r.memory.Peek(object)
	for version != 0 && !r.isUpTo(version, stamp) {
		version = r.memory.Peek(version + 2)
	}
	return version
}

// wasAt is the same of all that there ever were.
func (r *run) wasAt(row []uint64, stamp uint64) uint64 {
	for _, version := range slices.Backward(row) {
		if r.isUpTo(version, stamp) {
			return version
		}
	}
	return 0
}

func (r *run) isUpTo(version, stamp uint64) bool {
	s := r.memory.Peek(version + 1)
	return s != 0 && s <= stamp
}

// checkFew checks P15.5 on another memory that is as this one is now, and tells whether there was something to check.
func (r *run) checkFew() bool {
	stamps := map[uint64]int{}
	for _, s := range announce.Slots(r.memory, slots) {
		switch s.Kind {
		case api.Claimed, api.Early:
			return false
		case api.Exact:
			stamps[s.Stamp]++
		}
	}
	m := r.memory.Fork()
	if !step.Alone(m.View(0), cut.NewCollect(tree, slots), 1<<20) {
		r.t.Fatal("a Collect is not done")
	}
	if kept := cut.Kept(m, tree); kept > len(stamps)+2 {
		r.t.Fatalf("kept %d, with stamps %v", kept, stamps)
	}
	return true
}

// left are the threads that have calls that have not returned.
func (r *run) left() []int {
	var l []int
	for thread, calls := range r.threads {
		if len(calls) > 0 && !calls[len(calls)-1].over {
			l = append(l, thread)
		}
	}
	return l
}

// allPicks does a run by all picks there are, behind what the thread 0 does, that go at most so many times from one thread, that could have gone on, to another; it tells how many runs these were.
func allPicks(t *testing.T, switches int, threads [][]api.Op) int {
	t.Helper()
	runs := 0
	var walk func(picks []int, switched int)
	walk = func(picks []int, switched int) {
		r := newRun(t, 500, threads)
		for r.runner.Pick(0) {
		}
		r.runner.Run(picks)
		for l := r.left(); len(l) > 0; l = r.left() {
			next, more := l[0], switched
			if len(picks) > 0 && slices.Contains(l, picks[len(picks)-1]) {
				next = picks[len(picks)-1]
				more++
			}
			for _, thread := range l {
				if thread != next && more <= switches {
					walk(append(slices.Clone(picks), thread), more)
				}
			}
			picks = append(picks[:len(picks):len(picks)], next)
			r.runner.Pick(next)
		}
		r.checkStores()
		if !r.checkFew() {
			t.Fatal("a slot is not free, and not exact")
		}
		runs++
	}
	walk(nil, 0)
	return runs
}

func putOp(key, value uint64) api.Op { return api.Op{Kind: api.Put, Key: key, Value: value} }

var (
	snapshotOp = api.Op{Kind: api.Snapshot}
	releaseOp  = api.Op{Kind: api.Release}
	collectOp  = api.Op{Kind: api.Collect}
	lookOp     = api.Op{Kind: api.Range}
	takeOp     = api.Op{}
)

// P15.4 to P15.6: all orders of steps that switch threads a few times, behind what the first list does.
func TestAllPicks(t *testing.T) {
	// The key's object is the root's first one: a Collect comes to it right behind its scan.
	a, b := keyOf(t, 0), keyOf(t, 0, 1)
	for i, c := range []struct {
		switches int
		threads  [][]api.Op
	}{
		{2, [][]api.Op{{putOp(a, 1), putOp(a, 2)}, {snapshotOp}, {collectOp}}},
		{2, [][]api.Op{{putOp(a, 1)}, {snapshotOp, putOp(a, 2)}, {collectOp}}},
		{1, [][]api.Op{{putOp(a, 1)}, {snapshotOp}, {putOp(a, 2)}, {collectOp}}},
		{1, [][]api.Op{{putOp(a, 1), takeOp, putOp(a, 2)}, {snapshotOp}, {takeOp, putOp(a, 3)}, {collectOp}}},
		{1, [][]api.Op{{putOp(a, 1), snapshotOp, putOp(a, 2)}, {collectOp}, {collectOp}}},
		{2, [][]api.Op{{putOp(a, 1), snapshotOp, putOp(a, 2), takeOp, putOp(a, 3)}, {releaseOp}, {collectOp}}},
		{1, [][]api.Op{{putOp(a, 1), snapshotOp, putOp(a, 2)}, {lookOp}, {collectOp}}},
		{1, [][]api.Op{{putOp(a, 1), snapshotOp, putOp(a, 2)}, {releaseOp, collectOp}, {lookOp}}},
		{2, [][]api.Op{{putOp(a, 1), takeOp, putOp(a, 2)}, {putOp(b, 3)}, {collectOp}}},
	} {
		t.Run(strconv.Itoa(i), func(t *testing.T) {
			t.Parallel()
			if runs := allPicks(t, c.switches, c.threads); runs < 100 {
				t.Error("too few runs:", runs)
			}
		})
	}
}

// P15.4, P15.6: two Cuts of one object, by unlike Needs, that get between one another: what both need stays, and the newest one.
func TestTwoCuts(t *testing.T) {
	row := []uint64{8, 6, 5, 4, 3, 1}
	for _, c := range []struct{ a, b api.Need }{
		{needOf(9, 2, 5), needOf(9, 5)},
		{needOf(9), needOf(4)},
		{needOf(7, 3), needOf(9, 3, 6)},
		{needOf(9, 1, 4), needOf(9, 4, 6)},
	} {
		for i := range 24 {
			for j := range 24 {
				for k := range 24 {
					m := newRow(t, row...)
					a, b := cut.NewCut(0, 1, c.a), cut.NewCut(0, 1, c.b)
					step.Alone(m.View(0), a, i)
					step.Alone(m.View(1), b, j)
					step.Alone(m.View(0), a, k)
					do(t, m, b, a)
					for stamp := range uint64(12) {
						if !cut.Needed(c.a, stamp, stamp+1) || !cut.Needed(c.b, stamp, stamp+1) {
							continue
						}
						upTo := func(s uint64) bool { return s <= stamp }
						l := stampsOf(m, 1)
						want := row[slices.IndexFunc(row, upTo)]
						if at := slices.IndexFunc(l, upTo); at < 0 || l[at] != want {
							t.Fatalf("%+v, %+v, behind %d, %d, %d steps: at %d there is none of the stamp %d in %d", c.a, c.b, i, j, k, stamp, want, l)
						}
					}
					if a.Head() != 80 || b.Head() != 80 || stampsOf(m, 1)[0] != 8 {
						t.Fatal(tellsOf(a), tellsOf(b), stampsOf(m, 1))
					}
				}
			}
		}
	}
}

func drawOp(r *rand.Rand, keys []uint64) api.Op {
	key := keys[r.Intn(len(keys))]
	switch r.Intn(16) {
	case 0:
		return takeOp
	case 1, 2, 3:
		return snapshotOp
	case 4, 5:
		return releaseOp
	case 6:
		return api.Op{Kind: api.Release, Handle: uint64(1+r.Intn(2)) + uint64(r.Intn(4))<<16}
	case 7, 8:
		return lookOp
	case 9, 10, 11:
		return collectOp
	case 12:
		return api.Op{Kind: api.Delete, Key: key}
	case 13:
		return api.Op{Kind: api.Swap, Key: key, Old: uint64(r.Intn(3)), Value: uint64(r.Intn(3))}
	}
	return putOp(key, uint64(r.Intn(3)))
}

// P15.4 to P15.6: longer runs of several threads.
func TestDrawnPicks(t *testing.T) {
	var counted uint64
	looked, few := 0, 0
	for seed := range int64(400) {
		r := rand.New(rand.NewSource(seed))
		keys := []uint64{keyOf(t, r.Intn(3)), keyOf(t, r.Intn(3), 1), keyOf(t, r.Intn(3), 1, 2), keyOf(t, r.Intn(3), 3)}
		threads := make([][]api.Op, 2+r.Intn(4))
		for i := range threads {
			for range 3 + r.Intn(10) {
				threads[i] = append(threads[i], drawOp(r, keys))
			}
		}
		run := newRun(t, 20000, threads)
		for !run.runner.Done() {
			thread := r.Intn(len(threads))
			for range 1 + r.Intn(4)*r.Intn(4)*r.Intn(4) {
				run.runner.Pick(thread)
			}
			if r.Intn(20) == 0 && run.checkFew() {
				few++
			}
		}
		run.checkStores()
		counted += run.counted
		looked += run.looked
	}
	if counted < 400 || looked < 100 || few < 2000 {
		t.Error("too little has come up:", counted, looked, few)
	}
}

// P15.5: the bound is met: each stamp that is announced keeps a version, and so does a newest one that has no stamp.
func TestAsManyAsMayBe(t *testing.T) {
	m := newTrie(t)
	object := uint64(root + 4)
	do(t, m, put(7, 1), shoot(), put(7, 2), shoot(), put(7, 3), take(), put(7, 4), take())
	p := put(7, 5)
	for m.Peek(object) == 0 || m.Peek(m.Peek(object)+1) != 0 {
		p.Step(m.View(0))
	}
	do(t, m, cut.NewCollect(tree, slots))
	if l := stampsOf(m, object); !slices.Equal(l, []uint64{0, 4, 2, 1}) || cut.Kept(m, tree) != 4 {
		t.Error(l, cut.Kept(m, tree))
	}
	do(t, m, p, cut.NewCollect(tree, slots))
	if l := stampsOf(m, object); !slices.Equal(l, []uint64{5, 2, 1}) || cut.Kept(m, tree) != 3 {
		t.Error(l, cut.Kept(m, tree))
	}
}

// P15.4: a Snapshot that stands still at any of its steps misses nothing of what others write and collect meanwhile.
func TestASnapshotThatStandsStill(t *testing.T) {
	for steps := range 8 {
		m := newTrie(t)
		do(t, m, put(7, 1), take(), put(7, 2))
		p := shoot()
		done := step.Alone(m.View(0), p, steps)
		do(t, m, put(7, 3), take(), put(7, 4), cut.NewCollect(tree, slots), take(), put(7, 5), cut.NewCollect(tree, slots))
		if !done {
			do(t, m, p)
		}
		do(t, m, put(7, 6), cut.NewCollect(tree, slots))
		// Ahead of its last Load of the camera (the fifth step) it sees all that was written meanwhile; ahead of the camera's turn what came ahead of that; then what was there.
		want := uint64(5)
		if steps == 5 {
			want = 3
		} else if steps > 5 {
			want = 2
		}
		r := walk.NewRange(tree, p.Stamp(), 0, greatest)
		do(t, m, r)
		if got := r.Pairs(); !slices.Equal(got, []api.Pair{{Key: 7, Value: want}}) {
			t.Errorf("behind %d steps: %v, not %d", steps, got, want)
		}
	}
}

// P15.4, P15.5: by goroutines over a live memory: a handle's picture stays while others write and collect.
func TestLive(t *testing.T) {
	const threads, rounds = 6, 30
	m, errno := arena.New(1<<18, true)
	if errno != api.OK {
		t.Fatal(errno)
	}
	tree, _ := trie.Make(m.View(-1))
	slots, _ := announce.Make(m.View(-1), tree.Camera, threads, api.MaxStamp)
	var owns [threads]uint64
	for i := range owns {
		owns[i] = keyOf(t, 4, 1+i%2, i)
	}
	var wait sync.WaitGroup
	for i := range threads {
		wait.Go(func() {
			v := m.View(i)
			for j := range rounds {
				step.Alone(v, trie.NewPut(tree, owns[i], uint64(j)), 1<<20)
				p := announce.NewSnapshot(slots)
				step.Alone(v, p, 1<<20)
				if p.Errno() != api.OK {
					t.Error(p.Errno())
					return
				}
				a, b := walk.NewRange(tree, p.Stamp(), 0, greatest), walk.NewGet(tree, p.Stamp(), owns[i:i+1])
				step.Alone(v, a, 1<<20)
				step.Alone(v, trie.NewPut(tree, owns[i], uint64(100+j)), 1<<20)
				step.Alone(v, cut.NewCollect(tree, slots), 1<<20)
				step.Alone(v, b, 1<<20)
				c := walk.NewRange(tree, p.Stamp(), 0, greatest)
				step.Alone(v, c, 1<<20)
				if !slices.Equal(a.Pairs(), c.Pairs()) || !slices.Equal(b.Pairs(), []api.Pair{{Key: owns[i], Value: uint64(j)}}) {
					t.Errorf("stamp %d: %v, then %v, %v", p.Stamp(), a.Pairs(), b.Pairs(), c.Pairs())
				}
				r := announce.NewRelease(slots, p.Handle())
				if step.Alone(v, r, 2); r.Errno() != api.OK {
					t.Error(r.Errno())
				}
			}
		})
	}
	wait.Wait()
	for _, s := range announce.Slots(m, slots) {
		if s.Kind != api.Free {
			t.Error(word.Print(s))
		}
	}
	step.Alone(m.View(0), cut.NewCollect(tree, slots), 1<<20)
	if kept := cut.Kept(m, tree); kept != 1 {
		t.Error("kept:", kept, vcas.Versions(m, tree.Root+4))
	}
}
