package arena_test

import (
	"math"
	"math/rand"
	"reflect"
	"testing"

	"shutter/api"
	"shutter/arena"
)

// kinds are a plain memory and a live one, by their names.
var kinds = map[string]bool{"plain": false, "live": true}

func newMemory(t *testing.T, cells int, live bool) *arena.Memory {
	t.Helper()
	m, err := arena.New(cells, live)
	if m == nil || err != api.OK {
		t.Fatalf("New(%d, %t): %v, %d", cells, live, m, err)
	}
	return m
}

// checkBoth runs a test of a plain memory and of a live one.
func checkBoth(t *testing.T, cells int, check func(t *testing.T, m *arena.Memory)) {
	for name, live := range kinds {
		t.Run(name, func(t *testing.T) { check(t, newMemory(t, cells, live)) })
	}
}

func numbers(n int, from uint64) []uint64 {
	l := make([]uint64, n)
	for i := range l {
		l[i] = from + uint64(i)
	}
	return l
}

func checkCells(t *testing.T, m *arena.Memory, want []uint64) {
	t.Helper()
	for addr, w := range want {
		if got := m.Peek(uint64(addr)); got != w {
			t.Errorf("cell %d holds %d, not %d", addr, got, w)
		}
	}
}

// P3.1: the cells' bounds, and one beyond each.
func TestNewRange(t *testing.T) {
	for name, live := range kinds {
		for _, cells := range []int{math.MinInt, -128, -1, 0, 1, api.MinCells - 1, api.MaxCells + 1, math.MaxInt} {
			if m, err := arena.New(cells, live); m != nil || err != api.ErrRange {
				t.Errorf("%s New(%d): %v, %d", name, cells, m, err)
			}
		}
		for _, cells := range []int{api.MinCells, api.MinCells + 1, 2000, api.MaxCells - 1, api.MaxCells} {
			m := newMemory(t, cells, live)
			if m.Live() != live || m.Cells() != cells || m.Left() != cells-1 || m.Made() != 0 || len(m.Trace()) != 0 {
				t.Errorf("%s New(%d): %t, %d cells, %d left, %d made", name, cells, m.Live(), m.Cells(), m.Left(), m.Made())
			}
		}
	}
}

// P3.1: all cells hold 0 at first; there are none behind the last one.
func TestPeekAtFirst(t *testing.T) {
	checkBoth(t, 130, func(t *testing.T, m *arena.Memory) {
		checkCells(t, m, make([]uint64, 130))
		for _, addr := range []uint64{130, 131, 1 << 32, 1 << 63, math.MaxUint64} {
			if got := m.Peek(addr); got != 0 {
				t.Errorf("Peek(%d): %d", addr, got)
			}
		}
	})
}

// P3.1: Peek tells what a cell holds, and is no access.
func TestPeekIsNoAccess(t *testing.T) {
	checkBoth(t, 128, func(t *testing.T, m *arena.Memory) {
		v := m.View(0)
		v.Store(5, 9)
		v.Store(127, 8)
		made := m.Made()
		if m.Peek(5) != 9 || m.Peek(127) != 8 || m.Peek(128) != 0 || m.Peek(6) != 0 {
			t.Error("Peek:", m.Peek(5), m.Peek(127), m.Peek(128), m.Peek(6))
		}
		if m.Made() != made || len(m.Trace()) != made || v.Accesses() != 2 {
			t.Error("Peek was an access:", m.Made(), v.Accesses())
		}
	})
}

// P3.2.
func TestViews(t *testing.T) {
	checkBoth(t, 128, func(t *testing.T, m *arena.Memory) {
		first := m.View(0)
		first.Load(1)
		for _, thread := range []int{0, 1, -1, 63, 64, 1000, math.MaxInt, math.MinInt} {
			v := m.View(thread)
			if v == nil || v.Thread() != thread || v.Accesses() != 0 {
				t.Fatalf("View(%d): thread %d, accesses %d", thread, v.Thread(), v.Accesses())
			}
		}
		a, b := m.View(3), m.View(3)
		a.Store(2, 7)
		a.Load(2)
		if got := b.Load(2); got != 7 {
			t.Error("another view of the same memory told", got)
		}
		if a.Accesses() != 2 || b.Accesses() != 1 || first.Accesses() != 1 {
			t.Error("accesses:", a.Accesses(), b.Accesses(), first.Accesses())
		}
	})
}

// P3.2, P3.3: each call is one access, also where there is no cell or no room.
func TestEachIsOneAccess(t *testing.T) {
	checkBoth(t, 128, func(t *testing.T, m *arena.Memory) {
		v := m.View(0)
		calls := []func(){
			func() { v.Load(5) }, func() { v.Load(128) },
			func() { v.Store(5, 1) }, func() { v.Store(math.MaxUint64, 1) },
			func() { v.Cas(5, 1, 2) }, func() { v.Cas(5, 1, 2) }, func() { v.Cas(128, 0, 2) },
			func() { v.Add(5, 1) }, func() { v.Add(1<<40, 1) },
			func() { v.Alloc([]uint64{1}) }, func() { v.Alloc(nil) }, func() { v.Alloc([]uint64{}) }, func() { v.Alloc(make([]uint64, 500)) },
		}
		for i, call := range calls {
			call()
			if v.Accesses() != i+1 {
				t.Fatalf("behind call %d: %d accesses", i, v.Accesses())
			}
			if !m.Live() && m.Made() != i+1 {
				t.Fatalf("behind call %d: made %d", i, m.Made())
			}
		}
	})
}

// The chapter's examples.
func TestExamples(t *testing.T) {
	checkBoth(t, 128, func(t *testing.T, m *arena.Memory) {
		v := m.View(0)
		if m.Left() != 127 || v.Alloc([]uint64{7, 8}) != 1 || v.Alloc([]uint64{9}) != 3 || v.Load(2) != 8 {
			t.Error("records")
		}
		if !v.Cas(2, 8, 5) || v.Cas(2, 8, 5) || v.Add(2, 10) != 5 || v.Load(2) != 15 || v.Load(999) != 0 || m.Left() != 124 {
			t.Error("accesses")
		}
		if m.Live() {
			return
		}
		want := []api.Access{
			{Kind: api.Alloc, Addr: 1, Values: []uint64{7, 8}},
			{Kind: api.Alloc, Addr: 3, Values: []uint64{9}},
			{Kind: api.Load, Addr: 2, Got: 8},
			{Kind: api.Cas, Addr: 2, A: 8, B: 5, Ok: true},
			{Kind: api.Cas, Addr: 2, A: 8, B: 5},
			{Kind: api.Add, Addr: 2, A: 10, Got: 5},
			{Kind: api.Load, Addr: 2, Got: 15},
			{Kind: api.Load, Addr: 999},
		}
		if got := m.Trace(); !reflect.DeepEqual(got, want) || m.Made() != 8 {
			t.Error(got)
		}
	})
	checkBoth(t, 128, func(t *testing.T, m *arena.Memory) {
		v := m.View(0)
		v.Alloc([]uint64{7, 8, 9})
		if v.Alloc(make([]uint64, 125)) != 0 || m.Left() != 124 || v.Alloc(nil) != 0 || v.Alloc([]uint64{}) != 0 || m.Left() != 124 {
			t.Error("no room:", m.Left())
		}
	})
}

// P3.3: Load and Store, at the edges too.
func TestLoadAndStore(t *testing.T) {
	checkBoth(t, 128, func(t *testing.T, m *arena.Memory) {
		v := m.View(0)
		for _, addr := range []uint64{0, 1, 63, 64, 126, 127} {
			if got := v.Load(addr); got != 0 {
				t.Errorf("Load(%d) at first: %d", addr, got)
			}
			v.Store(addr, addr+100)
			if got := v.Load(addr); got != addr+100 {
				t.Errorf("Load(%d): %d", addr, got)
			}
		}
		for _, addr := range []uint64{128, 129, 1 << 32, 1<<32 + 1, 1 << 63, math.MaxUint64} {
			v.Store(addr, 9)
			if got := v.Load(addr); got != 0 {
				t.Errorf("Load(%d): %d", addr, got)
			}
		}
		want := make([]uint64, 128)
		for _, addr := range []uint64{0, 1, 63, 64, 126, 127} {
			want[addr] = addr + 100
		}
		checkCells(t, m, want)
		if m.Left() != 127 || m.Cells() != 128 {
			t.Error("a Store changed what is left:", m.Left(), m.Cells())
		}
	})
}

// P3.3: Cas.
func TestCas(t *testing.T) {
	checkBoth(t, 128, func(t *testing.T, m *arena.Memory) {
		v := m.View(0)
		for _, addr := range []uint64{0, 1, 127} {
			if v.Cas(addr, 1, 2) || m.Peek(addr) != 0 {
				t.Error("done in spite of another value", addr)
			}
			if !v.Cas(addr, 0, math.MaxUint64) || m.Peek(addr) != math.MaxUint64 {
				t.Error("not done", addr)
			}
			if v.Cas(addr, 0, 5) || m.Peek(addr) != math.MaxUint64 {
				t.Error("done twice", addr)
			}
			if !v.Cas(addr, math.MaxUint64, math.MaxUint64) || m.Peek(addr) != math.MaxUint64 {
				t.Error("a Cas of like values", addr)
			}
		}
		for _, addr := range []uint64{128, 1 << 32, math.MaxUint64} {
			if v.Cas(addr, 0, 1) || v.Cas(addr, 0, 0) {
				t.Error("done without a cell", addr)
			}
		}
	})
}

// P3.3 and P5 of the document's rules: Add goes round.
func TestAdd(t *testing.T) {
	checkBoth(t, 128, func(t *testing.T, m *arena.Memory) {
		v := m.View(0)
		for _, addr := range []uint64{0, 1, 127} {
			if v.Add(addr, 5) != 0 || v.Add(addr, 0) != 5 || v.Add(addr, math.MaxUint64) != 5 || v.Add(addr, math.MaxUint64-3) != 4 || m.Peek(addr) != 0 {
				t.Errorf("cell %d holds %d", addr, m.Peek(addr))
			}
		}
		for _, addr := range []uint64{128, 1 << 32, math.MaxUint64} {
			if v.Add(addr, 5) != 0 || v.Add(addr, 5) != 0 {
				t.Error("without a cell", addr)
			}
		}
	})
}

// P3.3, P3.7: Alloc of none, of just what is left, and of one more.
func TestAlloc(t *testing.T) {
	checkBoth(t, 200, func(t *testing.T, m *arena.Memory) {
		v := m.View(0)
		if v.Alloc(numbers(200, 1)) != 0 || m.Left() != 199 || m.Peek(1) != 0 {
			t.Error("one more than is left, of all:", m.Left())
		}
		if v.Alloc(numbers(70, 1000)) != 1 || m.Left() != 129 {
			t.Error("first:", m.Left())
		}
		if v.Alloc(numbers(130, 1)) != 0 || v.Alloc(nil) != 0 || m.Left() != 129 || m.Peek(71) != 0 {
			t.Error("one more than is left:", m.Left())
		}
		if v.Alloc(numbers(129, 2000)) != 71 || m.Left() != 0 {
			t.Error("just what is left:", m.Left())
		}
		if v.Alloc([]uint64{1}) != 0 || v.Alloc(nil) != 0 || v.Alloc(make([]uint64, 1<<16)) != 0 || m.Left() != 0 {
			t.Error("behind the end:", m.Left())
		}
		checkCells(t, m, append(append([]uint64{0}, numbers(70, 1000)...), numbers(129, 2000)...))
	})
}

// P3.3: a write to the cell 0, or to one that was not handed out, is done as any other; an Alloc then puts its own values there.
func TestCellsThatWereNotHandedOut(t *testing.T) {
	checkBoth(t, 128, func(t *testing.T, m *arena.Memory) {
		v := m.View(0)
		v.Store(0, 4)
		v.Store(1, 5)
		v.Add(2, 6)
		v.Cas(3, 0, 7)
		v.Store(100, 8)
		checkCells(t, m, []uint64{4, 5, 6, 7, 0})
		if m.Left() != 127 || v.Load(100) != 8 {
			t.Error("left:", m.Left(), v.Load(100))
		}
		if v.Alloc([]uint64{0, 0}) != 1 {
			t.Error("Alloc")
		}
		checkCells(t, m, []uint64{4, 0, 0, 7, 0})
		if v.Alloc([]uint64{9}) != 3 || m.Left() != 124 {
			t.Error("Alloc")
		}
		checkCells(t, m, []uint64{4, 0, 0, 9, 0})
		if m.Peek(100) != 8 {
			t.Error(m.Peek(100))
		}
	})
}

// P3 of the document's rules: what is handed in stays, spare room too, and plays no part later.
func TestAllocKeepsNoList(t *testing.T) {
	checkBoth(t, 128, func(t *testing.T, m *arena.Memory) {
		whole := []uint64{1, 2, 3, 4}
		v := m.View(0)
		v.Alloc(whole[:2])
		v.Store(1, 50)
		if !reflect.DeepEqual(whole, []uint64{1, 2, 3, 4}) {
			t.Error("the list was changed:", whole)
		}
		whole[1] = 99
		if m.Peek(2) != 2 {
			t.Error("the cells are the list's")
		}
		if l := m.Trace(); !m.Live() && !reflect.DeepEqual(l[0].Values, []uint64{1, 2}) {
			t.Error("the trace has the list:", l[0].Values)
		}
	})
}

// P3.4: the trace has all accesses of all views, each with its fields and no others.
func TestTrace(t *testing.T) {
	m := newMemory(t, 128, false)
	a, b := m.View(2), m.View(-7)
	a.Store(5, 6)
	b.Load(5)
	a.Cas(5, 6, 8)
	b.Cas(5, 6, 9)
	a.Add(5, math.MaxUint64)
	b.Alloc([]uint64{1, 2})
	a.Alloc(numbers(126, 1))
	a.Alloc(nil)
	b.Store(128, 3)
	b.Cas(500, 0, 1)
	a.Add(500, 2)
	want := []api.Access{
		{Thread: 2, Kind: api.Store, Addr: 5, A: 6},
		{Thread: -7, Kind: api.Load, Addr: 5, Got: 6},
		{Thread: 2, Kind: api.Cas, Addr: 5, A: 6, B: 8, Ok: true},
		{Thread: -7, Kind: api.Cas, Addr: 5, A: 6, B: 9},
		{Thread: 2, Kind: api.Add, Addr: 5, A: math.MaxUint64, Got: 8},
		{Thread: -7, Kind: api.Alloc, Addr: 1, Values: []uint64{1, 2}},
		{Thread: 2, Kind: api.Alloc, Values: numbers(126, 1)},
		{Thread: 2, Kind: api.Alloc},
		{Thread: -7, Kind: api.Store, Addr: 128, A: 3},
		{Thread: -7, Kind: api.Cas, Addr: 500, B: 1},
		{Thread: 2, Kind: api.Add, Addr: 500, A: 2},
	}
	if got := m.Trace(); !reflect.DeepEqual(got, want) || m.Made() != len(want) {
		t.Errorf("made %d, trace %v", m.Made(), got)
	}
}

// P3 of the document's rules: a trace that was answered is the caller's.
func TestTraceIsTheCallers(t *testing.T) {
	m := newMemory(t, 128, false)
	v := m.View(0)
	v.Alloc([]uint64{1, 2})
	v.Load(1)
	first, second := m.Trace(), m.Trace()
	first[0].Values[0] = 77
	first[1].Addr = 99
	_ = append(first[:1], api.Access{Thread: 5})
	_ = append(first[0].Values[:1], 88)
	for _, l := range [][]api.Access{second, m.Trace()} {
		if !reflect.DeepEqual(l[0].Values, []uint64{1, 2}) || l[1].Addr != 1 || l[1].Thread != 0 {
			t.Error("it shares with another:", l)
		}
	}
	if m.Peek(1) != 1 {
		t.Error("a cell is the trace's")
	}
	v.Load(3)
	if len(second) != 2 || m.Made() != 3 {
		t.Error("length:", len(second), m.Made())
	}
}

// P3.4: a live memory has no trace.
func TestLiveHasNoTrace(t *testing.T) {
	m := newMemory(t, 128, true)
	v := m.View(0)
	v.Alloc([]uint64{1, 2})
	v.Load(1)
	if len(m.Trace()) != 0 || m.Made() != 0 || v.Accesses() != 2 {
		t.Error(m.Trace(), m.Made(), v.Accesses())
	}
}

// P3.4 and P4 of the document's rules: a Fork is by itself, and views go on with their own memory.
func TestFork(t *testing.T) {
	checkBoth(t, 128, func(t *testing.T, m *arena.Memory) {
		v := m.View(1)
		v.Alloc([]uint64{1, 2, 3})
		v.Store(0, 9)
		v.Store(100, 8)
		made := m.Made()
		f := m.Fork()
		if f.Live() != m.Live() || f.Cells() != 128 || f.Left() != 124 || f.Made() != 0 || len(f.Trace()) != 0 || m.Made() != made {
			t.Error("Fork:", f.Live(), f.Cells(), f.Left(), f.Made(), m.Made())
		}
		checkCells(t, f, []uint64{9, 1, 2, 3, 0})
		w := f.View(1)
		v.Store(1, 50)
		w.Store(2, 60)
		if v.Alloc([]uint64{70}) != 4 || w.Alloc([]uint64{80, 81}) != 4 || m.Left() != 123 || f.Left() != 122 {
			t.Error("left:", m.Left(), f.Left())
		}
		v.Store(120, 5)
		checkCells(t, m, []uint64{9, 50, 2, 3, 70, 0})
		checkCells(t, f, []uint64{9, 1, 60, 3, 80, 81})
		if m.Peek(100) != 8 || f.Peek(100) != 8 || m.Peek(120) != 5 || f.Peek(120) != 0 {
			t.Error("cells:", m.Peek(100), f.Peek(100), m.Peek(120), f.Peek(120))
		}
		if !m.Live() && (m.Made() != made+3 || f.Made() != 2) {
			t.Error("made:", m.Made(), f.Made())
		}
		if v.Accesses() != 6 || w.Accesses() != 2 {
			t.Error("accesses:", v.Accesses(), w.Accesses())
		}
	})
}

// P3.4: a Fork of a Fork, and one of a memory that is full.
func TestForkAgain(t *testing.T) {
	checkBoth(t, 128, func(t *testing.T, m *arena.Memory) {
		f := m.Fork().Fork()
		if f.View(0).Alloc(numbers(127, 1)) != 1 || f.Left() != 0 || m.Left() != 127 || m.Peek(1) != 0 {
			t.Error("left:", f.Left(), m.Left())
		}
		g := f.Fork()
		if g.View(0).Alloc([]uint64{1}) != 0 || g.Left() != 0 || g.Peek(127) != 127 || g.Peek(1) != 1 {
			t.Error("of a full one:", g.Left(), g.Peek(127))
		}
	})
}

// P1 of the document's rules: nil memories and views.
func TestNil(t *testing.T) {
	var m *arena.Memory
	if m.View(3) != nil || m.Live() || m.Cells() != 0 || m.Left() != 0 || m.Peek(0) != 0 || m.Trace() != nil || m.Made() != 0 || m.Fork() != nil {
		t.Error("a nil memory")
	}
	for _, v := range []*arena.View{nil, m.View(3)} {
		v.Store(1, 2)
		if v.Load(1) != 0 || v.Cas(1, 0, 1) || v.Add(1, 2) != 0 || v.Alloc([]uint64{1}) != 0 || v.Accesses() != 0 || v.Thread() != 0 {
			t.Error("a nil view")
		}
	}
}

// drawn makes many accesses, drawn by a seed, of a memory and of a list of cells beside it that does what the document says; it tells what came of each.
func drawn(t *testing.T, m *arena.Memory, seed int64) []uint64 {
	t.Helper()
	draw := rand.New(rand.NewSource(seed))
	cells := make([]uint64, m.Cells())
	next := 1
	views := []*arena.View{m.View(0), m.View(1), m.View(2)}
	var told []uint64
	for range 2000 {
		v := views[draw.Intn(3)]
		addr, a, b := uint64(draw.Intn(m.Cells()+3)), uint64(draw.Intn(3)), uint64(draw.Intn(3))
		there := addr < uint64(len(cells))
		var held uint64
		if there {
			held = cells[addr]
		}
		var got, want uint64
		switch draw.Intn(5) {
		case 0:
			got, want = v.Load(addr), held
		case 1:
			v.Store(addr, a)
			held = a
		case 2:
			if v.Cas(addr, a, b) {
				got = 1
			}
			if there && held == a {
				want, held = 1, b
			}
		case 3:
			got, want = v.Add(addr, a), held
			held += a
		case 4:
			l := numbers(draw.Intn(4), a)
			got = v.Alloc(l)
			if there {
				cells[addr] = held
			}
			if len(l) > 0 && len(l) <= len(cells)-next {
				want = uint64(next)
				next += copy(cells[next:], l)
			}
			there = false
		}
		if there {
			cells[addr] = held
		}
		if got != want || m.Left() != len(cells)-next {
			t.Fatalf("told %d, not %d; left %d, not %d", got, want, m.Left(), len(cells)-next)
		}
		told = append(told, got)
	}
	checkCells(t, m, cells)
	return told
}

// P3.3, P3.8: whatever is done, a live memory that one goroutine uses answers as a plain one.
func TestDrawn(t *testing.T) {
	for seed := range int64(20) {
		plain := drawn(t, newMemory(t, 300, false), seed)
		live := drawn(t, newMemory(t, 300, true), seed)
		if !reflect.DeepEqual(plain, live) {
			t.Error("a live one answers otherwise, seed", seed)
		}
	}
}

// follow does the accesses of a trace, from all 0 on, and holds what it tells against what comes of them.
func follow(t *testing.T, count int, trace []api.Access) []uint64 {
	t.Helper()
	cells := make([]uint64, count)
	for i, a := range trace {
		if a.Kind == api.Alloc {
			if a.Addr != 0 {
				copy(cells[a.Addr:], a.Values)
			}
			continue
		}
		if a.Addr >= uint64(count) {
			if a.Got != 0 || a.Ok {
				t.Fatal("without a cell:", i, a)
			}
			continue
		}
		held := cells[a.Addr]
		switch a.Kind {
		case api.Load:
			if a.Got != held {
				t.Fatal("Load:", i, a, held)
			}
		case api.Store:
			cells[a.Addr] = a.A
		case api.Cas:
			if a.Ok != (held == a.A) {
				t.Fatal("Cas:", i, a, held)
			}
			if a.Ok {
				cells[a.Addr] = a.B
			}
		case api.Add:
			if a.Got != held {
				t.Fatal("Add:", i, a, held)
			}
			cells[a.Addr] = held + a.A
		}
	}
	return cells
}

// P3.6: cells hold what the trace says.
func TestCellsHoldWhatTheTraceSays(t *testing.T) {
	for seed := range int64(20) {
		m := newMemory(t, 200, false)
		drawn(t, m, seed)
		checkCells(t, m, follow(t, 200, m.Trace()))
	}
}

// P3.7: records lie one behind the other, none has the cell 0, and Left goes down by their lengths alone.
func TestRecords(t *testing.T) {
	checkBoth(t, 1000, func(t *testing.T, m *arena.Memory) {
		v, w := m.View(0), m.View(1)
		next := uint64(1)
		for i := range 40 {
			n := 1 + i*7%30
			addr := v.Alloc(numbers(n, uint64(i)))
			v, w = w, v
			if addr != next {
				t.Fatalf("record %d at %d, not %d", i, addr, next)
			}
			v.Store(addr, 3)
			v.Add(900, 1)
			w.Alloc(nil)
			w.Alloc(make([]uint64, 1000))
			next += uint64(n)
			if m.Left() != 1000-int(next) {
				t.Fatalf("left %d behind record %d", m.Left(), i)
			}
		}
	})
}
