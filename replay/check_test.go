package replay_test

import (
	"math"
	"math/rand"
	"slices"
	"testing"

	"shutter/api"
	"shutter/arena"
	"shutter/replay"
	"shutter/script"
	"shutter/step"
	"shutter/store"
)

// P21.2, example 2, and the edges of each kind.
func TestCheck(t *testing.T) {
	none := uint64(128) // no cell's
	for _, c := range []struct {
		l     []api.Access
		errno api.Errno
		at    int
	}{
		{nil, api.OK, 0},
		{[]api.Access{}, api.OK, 0},
		{[]api.Access{load(0, 5, 0), put(0, 5, 3), load(0, 5, 4)}, api.ErrTrace, 2},
		{[]api.Access{alloc(0, 1, 9, 9), load(0, 2, 9), load(0, 2, 8)}, api.ErrTrace, 2},
		{[]api.Access{load(0, 5, 0), put(1, 5, 3), load(2, 5, 3)}, api.OK, 3},
		{[]api.Access{load(0, 5, 1)}, api.ErrTrace, 0},
		{[]api.Access{load(0, none, 0), load(0, math.MaxUint64, 0)}, api.OK, 2},
		{[]api.Access{put(0, none, 7), load(0, none, 7)}, api.ErrTrace, 1},
		{[]api.Access{put(0, 0, 7), load(0, 0, 7)}, api.OK, 2},
		{[]api.Access{put(0, 127, 7), load(0, 127, 7)}, api.OK, 2},
		{[]api.Access{cas(0, 5, 0, 7, true), cas(1, 5, 0, 8, false), load(0, 5, 7)}, api.OK, 3},
		{[]api.Access{cas(0, 5, 0, 7, false)}, api.ErrTrace, 0},
		{[]api.Access{cas(0, 5, 1, 7, true)}, api.ErrTrace, 0},
		{[]api.Access{cas(0, none, 0, 7, true)}, api.ErrTrace, 0},
		{[]api.Access{cas(0, none, 0, 7, false)}, api.OK, 1},
		{[]api.Access{add(0, 5, 7, 0), add(1, 5, math.MaxUint64, 7), load(0, 5, 6)}, api.OK, 3},
		{[]api.Access{add(0, 5, 7, 0), add(0, 5, 1, 8)}, api.ErrTrace, 1},
		{[]api.Access{add(0, none, 7, 0), add(0, none, 7, 0)}, api.OK, 2},
		{[]api.Access{alloc(0, 1, 9, 9), alloc(1, 3, 5), load(0, 3, 5)}, api.OK, 3},
		{[]api.Access{alloc(0, 1, 9, 9), alloc(1, 2, 5)}, api.ErrTrace, 1},
		{[]api.Access{alloc(0, 0, 9)}, api.ErrTrace, 0},
		{[]api.Access{alloc(0, 0)}, api.OK, 1},
		{[]api.Access{alloc(0, 1)}, api.ErrTrace, 0},
		{[]api.Access{alloc(0, 1, make([]uint64, 127)...), alloc(0, 0, 1)}, api.OK, 2},
		{[]api.Access{alloc(0, 0, make([]uint64, 128)...), alloc(0, 1, 1)}, api.OK, 2},
		{[]api.Access{alloc(0, 1, make([]uint64, 128)...)}, api.ErrTrace, 0},
		{[]api.Access{put(0, 3, 9), alloc(0, 1, 7, 7, 7, 7), load(0, 3, 7)}, api.OK, 3},
		{[]api.Access{load(0, 5, 1), {Kind: api.Load, A: 1}}, api.ErrForm, 1},
		{[]api.Access{{}, load(0, 5, 1)}, api.ErrForm, 0},
	} {
		if errno, at := replay.Check(128, c.l); errno != c.errno || at != c.at {
			t.Errorf("Check(%+v): %d %d", c.l, errno, at)
		}
		held, errno := replay.Memory(128, c.l)
		if errno != c.errno || errno != api.OK && held != nil || errno == api.OK && len(held) != 128 {
			t.Errorf("Memory(%+v): %v %d", c.l, held, errno)
		}
	}
}

// P21.2: cells that a memory does not take, ahead of all else.
func TestCheckCells(t *testing.T) {
	wrong := []api.Access{load(0, 1, 0), {}}
	for _, cells := range []int{math.MinInt, -1, 0, api.MinCells - 1, api.MaxCells + 1, math.MaxInt} {
		for _, l := range [][]api.Access{nil, wrong} {
			if errno, at := replay.Check(cells, l); errno != api.ErrRange || at != 0 {
				t.Error(cells, errno, at)
			}
			if held, errno := replay.Memory(cells, l); errno != api.ErrRange || held != nil {
				t.Error(cells, errno)
			}
		}
	}
	last := []api.Access{put(0, api.MaxCells-1, 7)}
	if errno, at := replay.Check(api.MaxCells, last); errno != api.OK || at != 1 {
		t.Error(errno, at)
	}
	if held, errno := replay.Memory(api.MaxCells, last); errno != api.OK || len(held) != api.MaxCells || held[api.MaxCells-1] != 7 {
		t.Error(len(held), errno)
	}
}

// P21.2: each access that is not right, behind others that cannot be.
func TestCheckOfWrong(t *testing.T) {
	for _, a := range wrongAccesses() {
		l := []api.Access{load(0, 5, 1), load(0, 5, 0), a, a}
		if errno, at := replay.Check(128, l); errno != api.ErrForm || at != 2 {
			t.Errorf("%+v: %d %d", a, errno, at)
		}
		if held, errno := replay.Memory(128, l); errno != api.ErrForm || held != nil {
			t.Errorf("%+v: %d", a, errno)
		}
	}
}

// P21.2: what is left.
func TestMemory(t *testing.T) {
	l := []api.Access{alloc(0, 1, 4, 5, 6), put(0, 2, 9), add(0, 127, 3, 0), cas(0, 0, 0, 8, true), cas(0, 3, 0, 8, false), put(0, 999, 1)}
	held, errno := replay.Memory(128, l)
	want := make([]uint64, 128)
	want[0], want[1], want[2], want[3], want[127] = 8, 4, 9, 6, 3
	if errno != api.OK || !slices.Equal(held, want) {
		t.Error(held, errno)
	}
}

// spokenCells are a memory as chapter 3 says it.
type spokenCells struct {
	held []uint64
	next int
}

// tells is the access with what it tells now.
func (m *spokenCells) tells(a api.Access) api.Access {
	is := a.Addr < uint64(len(m.held))
	switch {
	case a.Kind == api.Alloc:
		a.Addr = 0
		if n := len(a.Values); n > 0 && n <= len(m.held)-m.next {
			a.Addr = uint64(m.next)
			m.next += copy(m.held[m.next:], a.Values)
		}
	case !is:
		a.Got, a.Ok = 0, false
	case a.Kind == api.Load:
		a.Got = m.held[a.Addr]
	case a.Kind == api.Store:
		m.held[a.Addr] = a.A
	case a.Kind == api.Add:
		a.Got = m.held[a.Addr]
		m.held[a.Addr] += a.A
	case a.Kind == api.Cas:
		if a.Ok = m.held[a.Addr] == a.A; a.Ok {
			m.held[a.Addr] = a.B
		}
	}
	return a
}

// P21.2: traces that can be, and such in which one access tells something else.
func TestCheckOfAny(t *testing.T) {
	r := rand.New(rand.NewSource(2))
	for range 3000 {
		m := &spokenCells{make([]uint64, 128), 1}
		var l []api.Access
		for range 1 + r.Intn(20) {
			a := someAccess(r)
			a.Addr, a.A, a.B = a.Addr%4+126*(a.Addr>>2%2), a.A%3, a.B%3
			if len(a.Values) == 3 {
				a.Values = make([]uint64, 60)
			}
			l = append(l, m.tells(a))
		}
		if errno, n := replay.Check(128, l); errno != api.OK || n != len(l) {
			t.Fatalf("%+v: %d %d", l, errno, n)
		}
		if held, errno := replay.Memory(128, l); errno != api.OK || !slices.Equal(held, m.held) {
			t.Fatalf("%+v: %d", l, errno)
		}
		checkLie(t, r, l)
	}
}

// checkLie checks a trace that can be, with one access that tells something else.
func checkLie(t *testing.T, r *rand.Rand, l []api.Access) {
	t.Helper()
	at := r.Intn(len(l))
	a := &l[at]
	switch a.Kind {
	case api.Load, api.Add:
		a.Got++
	case api.Cas:
		a.Ok = !a.Ok
	case api.Alloc:
		a.Addr++
	case api.Store:
		return
	}
	if errno, n := replay.Check(128, l); errno != api.ErrTrace || n != at {
		t.Fatalf("%+v: %d %d, but %d", l, errno, n, at)
	}
	if held, errno := replay.Memory(128, l); errno != api.ErrTrace || held != nil {
		t.Fatalf("%+v: %d", l, errno)
	}
}

func config() api.Config {
	return api.Config{Cells: 2000, Slots: 2, Stamps: 100, Multi: 4}
}

// P21.5: what store.Run tells goes through, behind what laid the store.
func TestTraceOfRun(t *testing.T) {
	for seed := range uint64(300) {
		c := config()
		if seed%3 == 0 {
			c.Cells = 150 // so that memory is short
		}
		s, errno := script.Draw(seed, c, 3, 5, 300)
		if errno != api.OK {
			t.Fatal(errno)
		}
		empty, _ := store.New(c)
		laid := empty.Memory().Trace()
		r, _ := store.Run(s)
		l := slices.Concat(laid, r.Trace)
		if errno, n := replay.Check(c.Cells, l); errno != api.OK || n != len(l) {
			t.Fatal(seed, errno, n)
		}
		text, errno := replay.Print(l)
		if back, e, _ := replay.Parse(text); errno != api.OK || e != api.OK || !same(back, l) {
			t.Fatal(seed, errno, e)
		}
	}
}

// P21.5: what is left is what the memory holds.
func TestMemoryOfRun(t *testing.T) {
	c := config()
	for seed := range uint64(100) {
		s, _ := script.Draw(seed, c, 3, 5, 300)
		empty, _ := store.New(c)
		threads := make([][]step.Proc, len(s.Threads))
		for i, ops := range s.Threads {
			for j, op := range ops {
				op.Handle = uint64(1 + (i+j)%3)
				threads[i] = append(threads[i], empty.Call(op))
			}
		}
		runner, _ := step.New(empty.Memory(), threads)
		runner.Run(s.Picks)
		checkHeld(t, empty.Memory())
	}
}

func checkHeld(t *testing.T, m *arena.Memory) {
	t.Helper()
	held, errno := replay.Memory(m.Cells(), m.Trace())
	if errno != api.OK || len(held) != m.Cells() {
		t.Fatal(errno, len(held))
	}
	for addr, value := range held {
		if m.Peek(uint64(addr)) != value {
			t.Fatal(addr, value)
		}
	}
}

// P3: what is handed in stays; what is answered is the caller's.
func TestCheckSharesNothing(t *testing.T) {
	values := []uint64{5, 6, 9}
	l := []api.Access{{Kind: api.Alloc, Addr: 1, Values: values[:2]}, put(0, 1, 8), load(0, 1, 77)}
	replay.Check(128, l[:2])
	held, _ := replay.Memory(128, l[:2])
	again, _ := replay.Memory(128, l[:2])
	held[1] = 70
	if again[1] != 8 || !slices.Equal(values, []uint64{5, 6, 9}) || !same(l, []api.Access{alloc(0, 1, 5, 6), put(0, 1, 8), load(0, 1, 77)}) {
		t.Error(again[:3], values, l)
	}
}
