package node_test

import (
	"math"
	"math/rand"
	"reflect"
	"sync"
	"testing"

	"shutter/api"
	"shutter/arena"
	"shutter/mix"
	"shutter/node"
	"shutter/step"
	"shutter/word"
)

const greatest = math.MaxUint64

// newMemory has so many cells left.
func newMemory(t *testing.T, left int) *arena.Memory {
	t.Helper()
	cells := max(left+1, api.MinCells)
	m, errno := arena.New(cells, false)
	if errno != api.OK {
		t.Fatal(errno)
	}
	if more := m.Left() - left; more > 0 {
		m.View(9).Alloc(make([]uint64, more))
	}
	return m
}

// maker is a Leaf or a Fork.
type maker interface {
	step.Proc
	Word() uint64
	Errno() api.Errno
}

// check lets a proc go to its end, and on, by so many steps of its own; it tells nothing ahead of its end, and the same from then on. Its accesses are one a step, but with ErrKnown none.
func check(t *testing.T, m *arena.Memory, p maker, steps int, errno api.Errno) {
	t.Helper()
	from := m.Made()
	for i := range steps + 2 {
		if i < steps && (p.Word() != 0 || p.Errno() != api.OK) {
			t.Errorf("ahead of the step %d it tells %d, %d", i, p.Word(), p.Errno())
		}
		if done := p.Step(m.View(0)); done != (i >= steps-1) {
			t.Errorf("step %d: done %t", i, done)
		}
		accesses := min(i+1, steps)
		if errno == api.ErrKnown {
			accesses = 0
		}
		if m.Made()-from != accesses {
			t.Errorf("step %d: %d accesses", i, m.Made()-from)
		}
		if i >= steps-1 && (p.Errno() != errno || (p.Word() == 0) != (errno != api.OK)) {
			t.Errorf("it tells %d, %d, not %d", p.Word(), p.Errno(), errno)
		}
	}
}

// The chapter's example 1.
func TestExampleOfALeafAndAFork(t *testing.T) {
	m := newMemory(t, 1000)
	l := node.NewLeaf(7, 1)
	check(t, m, l, 1, api.OK)
	if l.Word() != 3 || m.Peek(1) != 7 || m.Peek(2) != 1 {
		t.Error(l.Word(), m.Peek(1), m.Peek(2))
	}
	f := node.NewFork(3, mix.Mix(7), 5, mix.Mix(1), 0)
	check(t, m, f, 3, api.OK)
	if f.Word() != 18 || m.Peek(13) != 3 || m.Peek(30) != 6 {
		t.Error(f.Word(), m.Peek(13), m.Peek(30))
	}
	want := []uint64{0, 7, 1, 3, 1, 0, 5, 1, 0}
	for addr := range uint64(80) {
		held := uint64(0)
		switch {
		case addr < 9:
			held = want[addr]
		case addr == 13:
			held = 3
		case addr == 30:
			held = 6
		}
		if m.Peek(addr) != held {
			t.Errorf("cell %d holds %d, not %d", addr, m.Peek(addr), held)
		}
	}
}

// The chapter's example 2.
func TestExampleOfForks(t *testing.T) {
	m := newMemory(t, 1000)
	check(t, m, node.NewFork(3, 77, 5, 77, 0), 1, api.ErrKnown)
	f := node.NewFork(3, 0, 5, 1, 9)
	check(t, m, f, 5, api.OK)
	// The branch of the level 10 lies at 7, that of the level 9 at 74.
	if f.Word() != 2*74 || m.Peek(7) != 1 || m.Peek(8) != 4 || m.Peek(71) != 2*7 || m.Peek(72) != 1 || m.Peek(73) != 0 || m.Peek(74) != 71 {
		t.Error(f.Word(), m.Peek(7), m.Peek(8), m.Peek(71), m.Peek(72), m.Peek(74))
	}
}

// P10.1, P10.3: a Leaf is one Alloc of its key and its value.
func TestLeaf(t *testing.T) {
	for _, pair := range []api.Pair{{}, {Key: 7, Value: 1}, {Key: greatest}, {Value: greatest}, {Key: greatest, Value: greatest}} {
		m := newMemory(t, 300)
		m.View(9).Alloc([]uint64{1, 2, 3, 4})
		from := m.Made()
		p := node.NewLeaf(pair.Key, pair.Value)
		check(t, m, p, 1, api.OK)
		want := api.Access{Kind: api.Alloc, Addr: 5, Values: []uint64{pair.Key, pair.Value}}
		if l := m.Trace()[from:]; len(l) != 1 || !reflect.DeepEqual(l[0], want) || p.Word() != 11 {
			t.Errorf("%+v, %d", l, p.Word())
		}
	}
}

// P10.1: a Leaf without room, and with just enough.
func TestLeafWithoutRoom(t *testing.T) {
	for left, errno := range []api.Errno{api.ErrMemory, api.ErrMemory, api.OK, api.OK} {
		m := newMemory(t, left)
		check(t, m, node.NewLeaf(7, 1), 1, errno)
		if errno != api.OK && m.Left() != left {
			t.Error("left:", m.Left())
		}
	}
}

// checkLook lets a Look go to its end and on: two Loads.
func checkLook(t *testing.T, m *arena.Memory, addr uint64, want api.Pair) {
	t.Helper()
	p := node.NewLook(addr)
	from := m.Made()
	for i := range 4 {
		if i < 2 && p.Pair() != (api.Pair{}) {
			t.Errorf("ahead of the step %d it tells %v", i, p.Pair())
		}
		if done := p.Step(m.View(0)); done != (i >= 1) || m.Made()-from != min(i+1, 2) {
			t.Errorf("step %d: done %t, %d accesses", i, done, m.Made()-from)
		}
	}
	if p.Pair() != want {
		t.Errorf("%v, not %v", p.Pair(), want)
	}
	loads := []api.Access{{Kind: api.Load, Addr: addr, Got: want.Key}, {Kind: api.Load, Addr: addr + 1, Got: want.Value}}
	if l := m.Trace()[from:]; !reflect.DeepEqual(l, loads) {
		t.Errorf("%+v", l)
	}
}

// P10.1, P10.3, P10.4: a Look of a leaf, of other cells, and of none; addresses go round.
func TestLook(t *testing.T) {
	m := newMemory(t, 127)
	for _, pair := range []api.Pair{{}, {Key: 7, Value: 1}, {Key: greatest, Value: 5}, {Key: 5, Value: greatest}} {
		l := node.NewLeaf(pair.Key, pair.Value)
		l.Step(m.View(0))
		_, addr := word.Split(l.Word())
		checkLook(t, m, addr, pair)
	}
	v := m.View(9)
	v.Store(0, 50)
	v.Store(1, 60)
	v.Store(127, 70)
	checkLook(t, m, 0, api.Pair{Key: 50, Value: 60})
	checkLook(t, m, 127, api.Pair{Key: 70})
	checkLook(t, m, 128, api.Pair{})
	checkLook(t, m, 1<<62, api.Pair{})
	checkLook(t, m, greatest, api.Pair{Value: 50})
	v.Alloc(make([]uint64, m.Left()))
	checkLook(t, m, 0, api.Pair{Key: 50, Value: 60})
}

// P10.1: a Look reads the key and the value in two steps, each as the cell is then.
func TestLookInBetween(t *testing.T) {
	m := newMemory(t, 127)
	p := node.NewLook(5)
	m.View(9).Store(5, 1)
	p.Step(m.View(0))
	m.View(9).Store(5, 2)
	m.View(9).Store(6, 3)
	p.Step(m.View(0))
	m.View(9).Store(6, 4)
	if p.Step(m.View(0)); p.Pair() != (api.Pair{Key: 1, Value: 3}) {
		t.Error(p.Pair())
	}
}

// fork is what a Fork is made of.
type fork struct {
	a, ha, b, hb uint64
	level        int
}

func (f fork) proc() *node.Fork {
	return node.NewFork(f.a, f.ha, f.b, f.hb, f.level)
}

// first is its first level.
func (f fork) first() int {
	return max(f.level, 0)
}

// parts is the level at which the two part, -1 if they never do.
func (f fork) parts() int {
	for level := f.first(); level < api.Levels; level++ {
		if mix.Digits(f.ha)[level] != mix.Digits(f.hb)[level] {
			return level
		}
	}
	return -1
}

// allocs are the records that the chapter says, in their order; in a memory where they begin at the address.
func (f fork) allocs(next uint64) [][]uint64 {
	m := f.parts()
	if m < 0 {
		return nil
	}
	branch := func(cells map[int]uint64) []uint64 {
		l := make([]uint64, 64)
		for digit, held := range cells {
			l[digit] = held
		}
		return l
	}
	l := [][]uint64{{f.a, 1, 0}, {f.b, 1, 0}}
	x, y, r := next, next+3, next+6
	l = append(l, branch(map[int]uint64{mix.Digits(f.ha)[m]: x, mix.Digits(f.hb)[m]: y}))
	for level := m - 1; level >= f.first(); level-- {
		x = r + 64
		l = append(l, []uint64{2 * r, 1, 0}, branch(map[int]uint64{mix.Digits(f.ha)[level]: x}))
		r = x + 3
	}
	return l
}

// checkFork checks P10.1, P10.2 and P10.3 of a Fork in a memory with room.
func checkFork(t *testing.T, f fork) {
	t.Helper()
	m := newMemory(t, 1200)
	m.View(9).Alloc([]uint64{1, 2, 3, 4})
	from := m.Made()
	p := f.proc()
	want := f.allocs(5)
	if want == nil {
		check(t, m, p, 1, api.ErrKnown)
		return
	}
	check(t, m, p, 3+2*(f.parts()-f.first()), api.OK)
	got := m.Trace()[from:]
	if len(got) != len(want) {
		t.Fatalf("%+v: %d accesses, not %d", f, len(got), len(want))
	}
	next := uint64(5)
	for i, values := range want {
		if access := (api.Access{Kind: api.Alloc, Addr: next, Values: values}); !reflect.DeepEqual(got[i], access) {
			t.Fatalf("%+v: the access %d is %+v, not %+v", f, i, got[i], access)
		}
		next += uint64(len(values))
	}
	if p.Word() != 2*(next-64) {
		t.Fatalf("%+v: the word %d", f, p.Word())
	}
	checkDown(t, m, f, p.Word())
}

// checkDown checks P10.2.
func checkDown(t *testing.T, m *arena.Memory, f fork, w uint64) {
	t.Helper()
	last := f.parts()
	for level := f.first(); level <= last; level++ {
		kind, branch := word.Split(w)
		if kind != api.Branch {
			t.Fatalf("%+v: no branch at the level %d", f, level)
		}
		da, db := mix.Digit(f.ha, level), mix.Digit(f.hb, level)
		for digit := range api.Fan {
			version := m.Peek(branch + uint64(digit))
			if (version != 0) != (digit == da || digit == db) {
				t.Fatalf("%+v: the object %d at the level %d holds %d", f, digit, level, version)
			}
			if version != 0 && (m.Peek(version+1) != 1 || m.Peek(version+2) != 0) {
				t.Fatalf("%+v: the object %d at the level %d is of stamp %d", f, digit, level, m.Peek(version+1))
			}
		}
		w = m.Peek(m.Peek(branch + uint64(da)))
		if level == last && (w != f.a || m.Peek(m.Peek(branch+uint64(db))) != f.b) {
			t.Fatalf("%+v: %d at the end", f, w)
		}
	}
}

// parting is two mixed keys that part at the level.
func parting(r *rand.Rand, level int) (uint64, uint64) {
	a := mix.Digits(r.Uint64())
	b := append([]int(nil), a...)
	for l := level; l < api.Levels; l++ {
		most := 64
		if l == api.Levels-1 {
			most = 16
		}
		for b[l] = r.Intn(most); l == level && b[l] == a[l]; {
			b[l] = r.Intn(most)
		}
	}
	ha, _ := mix.Join(a)
	hb, _ := mix.Join(b)
	return ha, hb
}

// P10.1 to P10.3: Forks from each level on, of mixed keys that part at each level, and never.
func TestForks(t *testing.T) {
	r := rand.New(rand.NewSource(1))
	known := 0
	for part := range api.Levels + 1 {
		for level := -2; level <= api.Levels+1; level++ {
			ha, hb := r.Uint64(), uint64(0)
			if part < api.Levels {
				ha, hb = parting(r, part)
			} else {
				hb = ha
			}
			f := fork{r.Uint64(), ha, r.Uint64(), hb, level}
			checkFork(t, f)
			if f.parts() < 0 {
				known++
			}
		}
	}
	if known == 0 {
		t.Error("none that never part")
	}
}

// P10.1: the edges of levels and words.
func TestForkEdges(t *testing.T) {
	for _, f := range []fork{
		{3, 0, 5, 1, math.MinInt},
		{3, 0, 5, 1, -1},
		{3, 0, 5, 1, 0},
		{3, 0, 5, 1, 10},
		{3, 0, 5, 15, 10},
		{3, 0, 5, 16, 10}, // They part at the level 9, ahead of it.
		{3, 0, 5, 17, 10}, // And here again at the level 10.
		{3, 0, 5, 16, 9},
		{3, 0, 5, 1, 11},
		{3, 0, 5, 1, math.MaxInt},
		{3, 9, 5, 9, -1},
		{3, 9, 5, 9, 10},
		{3, 0, 5, 1 << 63, 0},
		{3, 0, 5, 1 << 63, 1},
		{3, 1<<63 + 1, 5, 0, 1}, // They part at the levels 0 and 10.
		{3, 1<<63 + 1, 5, 0, 0},
		{3, greatest, 5, 0, 0},
		{3, greatest, 5, greatest - 1, 0},
		{0, 0, 0, 1, 8},
		{4, 0, 4, 1, 8},
		{greatest, 0, greatest, 1, 8},
	} {
		checkFork(t, f)
	}
}

// P10.1: a Fork without room at each of its Allocs, and with just enough.
func TestForkWithoutRoom(t *testing.T) {
	for level := 6; level <= 10; level++ {
		f := fork{3, 0, 5, 1, level}
		need, at := 0, 0
		for i, values := range f.allocs(1) {
			at = i + 1
			for _, left := range []int{need, need + 1, need + len(values) - 1} {
				m := newMemory(t, left)
				check(t, m, f.proc(), at, api.ErrMemory)
				if m.Left() != left-need {
					t.Errorf("level %d, access %d: %d left of %d", level, i, m.Left(), left)
				}
			}
			need += len(values)
		}
		m := newMemory(t, need)
		check(t, m, f.proc(), at, api.OK)
		if m.Left() != 0 {
			t.Error("left:", m.Left())
		}
	}
}

// P1 of the document's rules: nil procs.
func TestNilProcs(t *testing.T) {
	var l *node.Leaf
	var f *node.Fork
	var k *node.Look
	m := newMemory(t, 127)
	for _, v := range []*arena.View{m.View(0), nil} {
		if !l.Step(v) || !f.Step(v) || !k.Step(v) {
			t.Error("a nil proc is not done")
		}
	}
	if l.Word() != 0 || l.Errno() != api.ErrNil || f.Word() != 0 || f.Errno() != api.ErrNil || k.Pair() != (api.Pair{}) || m.Made() != 0 {
		t.Error(l.Word(), l.Errno(), f.Word(), f.Errno(), k.Pair())
	}
}

// P1 of the document's rules: nil views: an Alloc answers 0, a Load 0; the procs go on.
func TestNilViews(t *testing.T) {
	l, f, g, k := node.NewLeaf(7, 1), node.NewFork(3, 0, 5, 1, 0), node.NewFork(3, 1, 5, 1, 0), node.NewLook(1)
	for range 2 {
		if !l.Step(nil) || l.Word() != 0 || l.Errno() != api.ErrMemory {
			t.Error("Leaf:", l.Word(), l.Errno())
		}
		if !f.Step(nil) || f.Word() != 0 || f.Errno() != api.ErrMemory {
			t.Error("Fork:", f.Word(), f.Errno())
		}
		if !g.Step(nil) || g.Word() != 0 || g.Errno() != api.ErrKnown {
			t.Error("Fork of like ones:", g.Word(), g.Errno())
		}
	}
	if k.Step(nil) || !k.Step(nil) || !k.Step(nil) || k.Pair() != (api.Pair{}) {
		t.Error("Look:", k.Pair())
	}
	m := newMemory(t, 300)
	f = node.NewFork(3, 0, 5, 1, 10)
	if f.Step(m.View(0)) || !f.Step(nil) || f.Errno() != api.ErrMemory || m.Left() != 297 {
		t.Error("Fork, then no view:", f.Errno(), m.Left())
	}
	m.View(9).Store(1, 50)
	m.View(9).Store(2, 60)
	k = node.NewLook(1)
	if k.Step(m.View(0)) || !k.Step(nil) || k.Pair() != (api.Pair{Key: 50}) {
		t.Error("Look, then no view:", k.Pair())
	}
}

// P10.2, P10.4: threads that make leaves and branches at one time, by any picks.
func TestDrawnPicks(t *testing.T) {
	shorts := 0
	for seed := range int64(200) {
		r := rand.New(rand.NewSource(seed))
		m := newMemory(t, 200+r.Intn(6000))
		threads := make([][]step.Proc, 1+r.Intn(5))
		forks, leaves := map[*node.Fork]fork{}, map[*node.Leaf]api.Pair{}
		for i := range threads {
			for range r.Intn(8) {
				if r.Intn(2) == 0 {
					pair := api.Pair{Key: r.Uint64(), Value: r.Uint64()}
					p := node.NewLeaf(pair.Key, pair.Value)
					leaves[p] = pair
					threads[i] = append(threads[i], p)
					continue
				}
				part := r.Intn(api.Levels)
				ha, hb := parting(r, part)
				f := fork{r.Uint64(), ha, r.Uint64(), hb, r.Intn(part + 1)}
				p := f.proc()
				forks[p] = f
				threads[i] = append(threads[i], p)
			}
		}
		runner, _ := step.New(m, threads)
		for !runner.Done() {
			runner.Pick(r.Intn(len(threads)))
		}
		for p, f := range forks {
			if p.Errno() == api.OK {
				checkDown(t, m, f, p.Word())
			} else if shorts++; p.Errno() != api.ErrMemory || p.Word() != 0 {
				t.Fatal(p.Errno(), p.Word())
			}
		}
		for p, pair := range leaves {
			if kind, addr := word.Split(p.Word()); p.Errno() == api.OK {
				if kind != api.Leaf {
					t.Fatal("the word", p.Word())
				}
				checkLook(t, m, addr, pair)
			}
		}
	}
	if shorts == 0 {
		t.Error("no memory was short")
	}
}

// P10.2, P10.4: by goroutines over a live memory.
func TestLive(t *testing.T) {
	const threads, calls = 8, 60
	m, errno := arena.New(threads*calls*(2+6+64*11+3*11), true)
	if errno != api.OK {
		t.Fatal(errno)
	}
	var made [threads][calls]*node.Fork
	var said [threads][calls]fork
	var wait sync.WaitGroup
	for i := range threads {
		wait.Go(func() {
			v := m.View(i)
			r := rand.New(rand.NewSource(int64(i)))
			for j := range calls {
				l := node.NewLeaf(uint64(i), uint64(j))
				step.Alone(v, l, 1)
				part := r.Intn(api.Levels)
				ha, hb := parting(r, part)
				said[i][j] = fork{l.Word(), ha, r.Uint64(), hb, r.Intn(part + 1)}
				made[i][j] = said[i][j].proc()
				step.Alone(v, made[i][j], 30)
			}
		})
	}
	wait.Wait()
	for i := range threads {
		for j, f := range said[i] {
			if made[i][j].Errno() != api.OK {
				t.Fatal(i, j, made[i][j].Errno())
			}
			checkDown(t, m, f, made[i][j].Word())
			_, addr := word.Split(f.a)
			if m.Peek(addr) != uint64(i) || m.Peek(addr+1) != uint64(j) {
				t.Fatal(i, j, m.Peek(addr), m.Peek(addr+1))
			}
		}
	}
}
