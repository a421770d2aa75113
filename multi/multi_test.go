package multi_test

import (
	"fmt"
	"math"
	"reflect"
	"strings"
	"testing"

	"shutter/api"
	"shutter/arena"
	"shutter/multi"
	"shutter/step"
)

const greatest = 1<<62 - 1

func entry(addr, old, now uint64) multi.Entry {
	return multi.Entry{Addr: addr, Old: old, New: now}
}

// newMemory has the values in its cells from 1 on, and so many cells left behind them.
func newMemory(t *testing.T, left int, values ...uint64) *arena.Memory {
	t.Helper()
	m, errno := arena.New(max(1+len(values)+left, api.MinCells), false)
	if errno != api.OK {
		t.Fatal(errno)
	}
	if len(values) > 0 {
		if addr, errno := multi.Make(m.View(9), values); addr != 1 || errno != api.OK {
			t.Fatal(addr, errno)
		}
	}
	if more := m.Left() - left; more > 0 {
		m.View(9).Alloc(make([]uint64, more))
	}
	return m
}

// made is the accesses of a memory's trace behind the first so many, as a text.
func made(m *arena.Memory, from int) string {
	var l []string
	for _, a := range m.Trace()[from:] {
		switch a.Kind {
		case api.Load:
			l = append(l, fmt.Sprintf("Load %d: %d", a.Addr, a.Got))
		case api.Cas:
			l = append(l, fmt.Sprintf("Cas %d %d %d: %t", a.Addr, a.A, a.B, a.Ok))
		case api.Alloc:
			l = append(l, fmt.Sprintf("Alloc %d: %d", a.Values, a.Addr))
		default:
			l = append(l, fmt.Sprintf("%+v", a))
		}
	}
	return strings.Join(l, ", ")
}

// checkSteps lets a proc go to its end, and on: its accesses are those, one a step (none: it is done by one step without any); quiet tells whether it tells nothing yet.
func checkSteps(t *testing.T, m *arena.Memory, p step.Proc, quiet func() bool, accesses string) {
	t.Helper()
	from, count := m.Made(), 0
	if accesses != "" {
		count = strings.Count(accesses, ", ") + 1
	}
	steps := max(count, 1)
	for i := range steps + 3 {
		if i < steps && !quiet() {
			t.Errorf("ahead of the step %d it tells something", i)
		}
		if done := p.Step(m.View(0)); done != (i >= steps-1) {
			t.Errorf("step %d: done %t", i, done)
		}
		if n := m.Made() - from; n != min(i+1, count) {
			t.Errorf("step %d: %d accesses", i, n)
		}
	}
	if got := made(m, from); got != accesses {
		t.Errorf("accesses: %s\nnot: %s", got, accesses)
	}
}

func checkMulti(t *testing.T, m *arena.Memory, l []multi.Entry, done bool, errno api.Errno, accesses string) {
	t.Helper()
	p := multi.NewMulti(l)
	checkSteps(t, m, p, func() bool { return !p.Done() && p.Errno() == api.OK }, accesses)
	if p.Done() != done || p.Errno() != errno {
		t.Errorf("%t, %d, not %t, %d", p.Done(), p.Errno(), done, errno)
	}
}

func checkRead(t *testing.T, m *arena.Memory, addr, value uint64, accesses string) {
	t.Helper()
	p := multi.NewRead(addr)
	checkSteps(t, m, p, func() bool { return p.Value() == 0 }, accesses)
	if p.Value() != value {
		t.Errorf("%d, not %d", p.Value(), value)
	}
}

func checkValues(t *testing.T, m *arena.Memory, addr uint64, want ...uint64) {
	t.Helper()
	if l, ok := multi.Values(m, addr, len(want)); !ok || !reflect.DeepEqual(l, want) {
		t.Errorf("%d, %t, not %d", l, ok, want)
	}
}

// checkHeld checks what cells hold, word by word.
func checkHeld(t *testing.T, m *arena.Memory, addr uint64, want ...uint64) {
	t.Helper()
	for i, w := range want {
		if got := m.Peek(addr + uint64(i)); got != w {
			t.Errorf("the cell %d holds %d, not %d", addr+uint64(i), got, w)
		}
	}
}

// alone does a proc to its end.
func alone(t *testing.T, m *arena.Memory, p step.Proc) {
	t.Helper()
	if !step.Alone(m.View(9), p, 2000) {
		t.Fatalf("%T is not done", p)
	}
}

// The chapter's examples.
func TestExamples(t *testing.T) {
	m := newMemory(t, 200, 5, 6, 7)
	l := []multi.Entry{entry(1, 5, 8), entry(3, 7, 9)}
	p := multi.NewMulti(l)
	alone(t, m, p)
	if !p.Done() || p.Errno() != api.OK {
		t.Error(p.Done(), p.Errno())
	}
	checkRead(t, m, 1, 8, "Load 1: 32")
	checkRead(t, m, 2, 6, "Load 2: 24")
	p = multi.NewMulti(l)
	alone(t, m, p)
	if p.Done() || p.Errno() != api.OK {
		t.Error(p.Done(), p.Errno())
	}
	checkValues(t, m, 1, 8, 6, 9)

	m = newMemory(t, 200, 5)
	checkMulti(t, m, []multi.Entry{entry(1, 5, 8)}, true, api.OK,
		"Alloc [0 1 1 20 32]: 2, Load 2: 0, Load 3: 1, Load 4: 1, Load 5: 20, Alloc [2 1 20 10]: 7, Cas 1 20 29: true, Load 2: 0, Cas 1 29 10: true, Cas 2 0 1: true, Load 2: 1, Load 4: 1, Load 6: 32, Cas 1 10 32: true, Load 2: 1")
	checkHeld(t, m, 1, 32, 1, 1, 1, 20, 32, 2, 1, 20, 10)
}

// P29.1, P29.5: two entries go by rising addresses; one that is not there ends it, and what was taken is left again.
func TestMultiByAddresses(t *testing.T) {
	m := newMemory(t, 200, 5, 6)
	checkMulti(t, m, []multi.Entry{entry(2, 6, 8), entry(1, 5, 7)}, true, api.OK,
		"Alloc [0 2 1 20 28 2 24 32]: 3, Load 3: 0, Load 4: 2, "+
			"Load 5: 1, Load 6: 20, Alloc [3 1 20 14]: 11, Cas 1 20 45: true, Load 3: 0, Cas 1 45 14: true, "+
			"Load 8: 2, Load 9: 24, Alloc [3 2 24 14]: 15, Cas 2 24 61: true, Load 3: 0, Cas 2 61 14: true, "+
			"Cas 3 0 1: true, Load 3: 1, Load 5: 1, Load 7: 28, Cas 1 14 28: true, Load 8: 2, Load 10: 32, Cas 2 14 32: true, Load 3: 1")
	checkValues(t, m, 1, 7, 8)
	m = newMemory(t, 200, 5, 6)
	checkMulti(t, m, []multi.Entry{entry(2, 9, 8), entry(1, 5, 7)}, false, api.OK,
		"Alloc [0 2 1 20 28 2 36 32]: 3, Load 3: 0, Load 4: 2, "+
			"Load 5: 1, Load 6: 20, Alloc [3 1 20 14]: 11, Cas 1 20 45: true, Load 3: 0, Cas 1 45 14: true, "+
			"Load 8: 2, Load 9: 36, Alloc [3 2 36 14]: 15, Cas 2 36 61: false, Load 2: 24, "+
			"Cas 3 0 2: true, Load 3: 2, Load 5: 1, Load 6: 20, Cas 1 14 20: true, Load 8: 2, Load 9: 36, Cas 2 14 36: false, Load 3: 2")
	checkValues(t, m, 1, 5, 6)
	// What is not there in the first cell: the second one is not looked at.
	m = newMemory(t, 200, 5, 6)
	checkMulti(t, m, []multi.Entry{entry(1, 4, 7), entry(2, 6, 8)}, false, api.OK,
		"Alloc [0 2 1 16 28 2 24 32]: 3, Load 3: 0, Load 4: 2, "+
			"Load 5: 1, Load 6: 16, Alloc [3 1 16 14]: 11, Cas 1 16 45: false, Load 1: 20, "+
			"Cas 3 0 2: true, Load 3: 2, Load 5: 1, Load 6: 16, Cas 1 14 16: false, Load 8: 2, Load 9: 24, Cas 2 14 24: false, Load 3: 2")
	checkValues(t, m, 1, 5, 6)
}

// P29.1: of no entries it is done, by a step without an access.
func TestMultiOfNone(t *testing.T) {
	m := newMemory(t, 100)
	checkMulti(t, m, nil, true, api.OK, "")
	checkMulti(t, m, []multi.Entry{}, true, api.OK, "")
	p := multi.NewMulti(nil)
	if !p.Step(nil) || !p.Done() {
		t.Error("not done")
	}
}

// P29.1: what is wrong is told by the first error that applies, by a step without an access, not ahead of it.
func TestMultiWrong(t *testing.T) {
	m := newMemory(t, 100, 5, 6)
	long := make([]multi.Entry, api.MaxWide+1)
	for i := range long {
		long[i].Addr = uint64(i + 1)
	}
	for i, c := range []struct {
		errno api.Errno
		l     []multi.Entry
	}{
		{api.ErrLong, long},
		{api.ErrLong, make([]multi.Entry, 17)},
		{api.ErrLong, make([]multi.Entry, 5000)},
		{api.ErrRange, []multi.Entry{entry(0, 0, 0)}},
		{api.ErrRange, []multi.Entry{entry(1, 5, 5), entry(0, 0, 0)}},
		{api.ErrRange, []multi.Entry{entry(1, greatest+1, 0)}},
		{api.ErrRange, []multi.Entry{entry(1, 5, greatest+1)}},
		{api.ErrRange, []multi.Entry{entry(1, 5, 6), entry(2, 6, math.MaxUint64)}},
		{api.ErrRange, []multi.Entry{entry(1, 5, 6), entry(1, math.MaxUint64, 6)}},
		{api.ErrRange, make([]multi.Entry, api.MaxWide)},
		{api.ErrKnown, []multi.Entry{entry(1, 5, 6), entry(1, 5, 6)}},
		{api.ErrKnown, []multi.Entry{entry(2, 6, 7), entry(1, 5, 6), entry(2, 0, 7)}},
		{api.ErrKnown, []multi.Entry{entry(1<<63, 0, 0), entry(1, 5, 6), entry(1<<63, 0, 1)}},
	} {
		t.Run(fmt.Sprint(i), func(t *testing.T) {
			checkMulti(t, m, c.l, false, c.errno, "")
			if p := multi.NewMulti(c.l); !p.Step(nil) || p.Errno() != c.errno {
				t.Error(p.Errno())
			}
		})
	}
	checkValues(t, m, 1, 5, 6)
}

// P29.1: as many entries as may be, and values as great.
func TestMultiWidest(t *testing.T) {
	values := make([]uint64, api.MaxWide)
	l := make([]multi.Entry, api.MaxWide)
	for i := range values {
		values[i] = uint64(i)
		l[len(l)-1-i] = entry(uint64(i+1), uint64(i), greatest-uint64(i))
	}
	m := newMemory(t, 400, values...)
	p := multi.NewMulti(l)
	alone(t, m, p)
	if !p.Done() || p.Errno() != api.OK {
		t.Error(p.Done(), p.Errno())
	}
	for i := range values {
		values[i] = greatest - uint64(i)
	}
	checkValues(t, m, 1, values...)
	// One of them is not there: nothing changes.
	for wrong := range l {
		q := make([]multi.Entry, len(l))
		for i := range l {
			q[i] = entry(uint64(i+1), values[i], 1)
		}
		q[wrong].Old--
		m := m.Fork()
		p := multi.NewMulti(q)
		alone(t, m, p)
		if p.Done() || p.Errno() != api.OK {
			t.Error(wrong, p.Done(), p.Errno())
		}
		checkValues(t, m, 1, values...)
	}
}

// P29.1, P3 of the document's rules: the list is the caller's, who may change it.
func TestMultiKeepsItsOwn(t *testing.T) {
	m := newMemory(t, 100, 5, 6)
	l := []multi.Entry{entry(2, 6, 8), entry(1, 5, 7), entry(9, 9, 9)}
	p := multi.NewMulti(l[:2])
	if !reflect.DeepEqual(l, []multi.Entry{entry(2, 6, 8), entry(1, 5, 7), entry(9, 9, 9)}) {
		t.Error("changed:", l)
	}
	l[0], l[1] = entry(1, 0, 0), entry(1, 0, 0)
	alone(t, m, p)
	if !p.Done() || p.Errno() != api.OK {
		t.Error(p.Done(), p.Errno())
	}
	checkValues(t, m, 1, 7, 8)
}

// P29.1: what is awaited may be what is to be held; cells that are not there hold nothing that could be swapped.
func TestMultiSameAndNoCell(t *testing.T) {
	m := newMemory(t, 100, 5, 6)
	p := multi.NewMulti([]multi.Entry{entry(1, 5, 5), entry(2, 6, 6)})
	alone(t, m, p)
	if !p.Done() {
		t.Error("not done")
	}
	p = multi.NewMulti([]multi.Entry{entry(1, 5, 4), entry(1<<40, 1, 2)})
	alone(t, m, p)
	if p.Done() || p.Errno() != api.OK {
		t.Error(p.Done(), p.Errno())
	}
	checkValues(t, m, 1, 5, 6)
	// A word that ends with 3 is as a value, that no Multi awaits; a Read tells it without these bits.
	m.View(9).Store(1, 4*5+3)
	p = multi.NewMulti([]multi.Entry{entry(1, 5, 4)})
	alone(t, m, p)
	if p.Done() {
		t.Error("done")
	}
	checkRead(t, m, 1, 5, "Load 1: 23")
	checkValues(t, m, 1, 5, 6)
}

// P29.1, P29.6: wherever there is no room, nothing has changed in the end.
func TestMultiNoMemory(t *testing.T) {
	l := []multi.Entry{entry(1, 5, 7), entry(2, 6, 8)}
	m := newMemory(t, 4, 5)
	checkMulti(t, m, l[:1], false, api.ErrMemory, "Alloc [0 1 1 20 28]: 0")
	m = newMemory(t, 8, 5)
	checkMulti(t, m, l[:1], false, api.ErrMemory, "Alloc [0 1 1 20 28]: 120, Load 120: 0, Load 121: 1, Load 122: 1, Load 123: 20, Alloc [120 1 20 482]: 0, Cas 120 0 3: true, Load 120: 3, Load 122: 1, Load 123: 20, Cas 1 482 20: false, Load 120: 3")
	for left := range 20 {
		m := newMemory(t, left, 5, 6)
		p := multi.NewMulti(l)
		alone(t, m, p)
		if enough := left >= 16; p.Done() != enough || (p.Errno() == api.OK) != enough || !enough && p.Errno() != api.ErrMemory {
			t.Error(left, p.Done(), p.Errno())
		}
		if p.Done() {
			checkValues(t, m, 1, 7, 8)
		} else {
			checkValues(t, m, 1, 5, 6)
		}
	}
}

// P29.1: a Read that meets a lock settles it, and reads again; a Multi likewise.
func TestMeetsALock(t *testing.T) {
	ahead := newMemory(t, 100, 5, 6)
	fill := uint64(ahead.Cells() - ahead.Left())
	first := multi.NewMulti([]multi.Entry{entry(1, 5, 7)})
	step.Alone(ahead.View(1), first, 7)
	plan, lock := fill, fill+5
	checkHeld(t, ahead, 1, 4*lock+1, 24)

	m := ahead.Fork()
	text := fmt.Sprintf("Load 1: %d, Load %d: %d, Load %d: 1, Load %d: 20, Load %d: %d, Load %d: 0, Cas 1 %d %d: true, ",
		4*lock+1, lock, plan, lock+1, lock+2, lock+3, 4*plan+2, plan, 4*lock+1, 4*plan+2)
	// Then it meets the plan, and helps that.
	other := lock + 4
	text += fmt.Sprintf("Load 1: %d, Load %d: 0, Load %d: 1, Load %d: 1, Load %d: 20, Alloc [%d 1 20 %d]: %d, Cas 1 20 %d: false, Load 1: %d, Cas %d 0 1: true, Load %d: 1, Load %d: 1, Load %d: 28, Cas 1 %d 28: true, Load 1: 28",
		4*plan+2, plan, plan+1, plan+2, plan+3, plan, 4*plan+2, other, 4*other+1, 4*plan+2, plan, plan, plan+2, plan+4, 4*plan+2)
	checkRead(t, m, 1, 7, text)

	// A plan that is decided takes no cell any more.
	m = ahead.Fork()
	m.View(9).Store(plan, 2)
	text = fmt.Sprintf("Load 1: %d, Load %d: %d, Load %d: 1, Load %d: 20, Load %d: %d, Load %d: 2, Cas 1 %d 20: true, Load 1: 20",
		4*lock+1, lock, plan, lock+1, lock+2, lock+3, 4*plan+2, plan, 4*lock+1)
	checkRead(t, m, 1, 5, text)

	m = ahead.Fork()
	p := multi.NewMulti([]multi.Entry{entry(1, 7, 8), entry(2, 6, 9)})
	alone(t, m, p)
	checkValues(t, m, 1, 8, 9)
	if !p.Done() {
		t.Error("not done")
	}
	// With no room for a lock of its own a Read ends the other one, too.
	m = ahead.Fork()
	m.View(9).Alloc(make([]uint64, m.Left()))
	r := multi.NewRead(1)
	alone(t, m, r)
	if r.Value() != 5 || m.Peek(plan) != 3 {
		t.Error(r.Value(), m.Peek(plan))
	}
}

// P29.1: plans that stand in each other's way are helped, one inside the other, as deep as they lie.
func TestHelpsWithinHelp(t *testing.T) {
	m := newMemory(t, 800, 5, 5, 5, 5, 5)
	var procs []*multi.Multi
	for addr := uint64(4); addr >= 1; addr-- {
		// It has taken its first cell, and stands still ahead of the second one, which the one ahead of it has taken.
		p := multi.NewMulti([]multi.Entry{entry(addr, 5, 10*addr), entry(addr+1, 5, 10*addr+1)})
		for m.Peek(addr)%4 != 2 {
			p.Step(m.View(1))
		}
		procs = append(procs, p)
	}
	r := multi.NewRead(1)
	alone(t, m, r)
	// The uppermost one is done, the next one is not; so the one below that is.
	if r.Value() != 5 {
		t.Error(r.Value())
	}
	checkValues(t, m, 1, 5, 20, 21, 40, 41)
	for i, p := range procs {
		alone(t, m, p)
		if p.Done() != (i%2 == 0) || p.Errno() != api.OK {
			t.Error(i, p.Done(), p.Errno())
		}
	}
	checkValues(t, m, 1, 5, 20, 21, 40, 41)
}

// P29.1: of a plan with more entries than may be MaxWide are gone through; of one with none it is done.
func TestHelpCounts(t *testing.T) {
	m := newMemory(t, 1000, 5)
	v := m.View(9)
	record := []uint64{1, 1 << 40}
	for i := range uint64(20) {
		record = append(record, 1, 0, 4*(100+i))
	}
	plan := v.Alloc(record)
	v.Store(1, 4*plan+2)
	from := m.Made()
	checkedRead := multi.NewRead(1)
	alone(t, m, checkedRead)
	if n := m.Made() - from; checkedRead.Value() != 100 || n != 1+3+3*api.MaxWide+1 {
		t.Error(checkedRead.Value(), n)
	}
	for i := range record {
		record[i] = 0
	}
	plan = v.Alloc(record)
	p := multi.NewRead(1)
	v.Store(1, 4*plan+2)
	step.Alone(v, p, 5)
	checkHeld(t, m, plan, 1)
}

// P29.2: words, edges and wrong values.
func TestWord(t *testing.T) {
	for _, c := range []struct {
		value, word uint64
		errno       api.Errno
	}{
		{0, 0, api.OK}, {1, 4, api.OK}, {5, 20, api.OK}, {greatest, 1<<64 - 4, api.OK},
		{greatest + 1, 0, api.ErrRange}, {1 << 63, 0, api.ErrRange}, {math.MaxUint64, 0, api.ErrRange},
	} {
		if w, errno := multi.Word(c.value); w != c.word || errno != c.errno {
			t.Error(c, w, errno)
		}
	}
}

// P29.2: new cells, by one access.
func TestMake(t *testing.T) {
	m, _ := arena.New(128, false)
	v := m.View(0)
	values := []uint64{5, 0, greatest}
	if addr, errno := multi.Make(v, values[:2]); addr != 1 || errno != api.OK {
		t.Error(addr, errno)
	}
	if values[0] != 5 || values[1] != 0 || values[2] != greatest {
		t.Error("changed:", values)
	}
	if addr, errno := multi.Make(v, values); addr != 3 || errno != api.OK {
		t.Error(addr, errno)
	}
	for _, l := range [][]uint64{{greatest + 1}, {1, math.MaxUint64}, {1 << 63, 5}, append(make([]uint64, 500), 1<<62)} {
		if addr, errno := multi.Make(v, l); addr != 0 || errno != api.ErrRange {
			t.Error(addr, errno)
		}
	}
	if got, want := made(m, 0), "Alloc [20 0]: 1, Alloc [20 0 18446744073709551612]: 3"; got != want {
		t.Error(got)
	}
	for _, l := range [][]uint64{nil, {}, make([]uint64, 123)} {
		if addr, errno := multi.Make(v, l); addr != 0 || errno != api.ErrMemory {
			t.Error(addr, errno)
		}
	}
	if m.Made() != 5 || m.Left() != 122 {
		t.Error(m.Made(), m.Left())
	}
	if addr, errno := multi.Make(v, make([]uint64, 122)); addr != 6 || errno != api.OK {
		t.Error(addr, errno)
	}
	for _, l := range [][]uint64{nil, {5}, {math.MaxUint64}} {
		if addr, errno := multi.Make(nil, l); addr != 0 || errno != api.ErrNil {
			t.Error(addr, errno)
		}
	}
}

// P29.2: what cells hold, without an access.
func TestValues(t *testing.T) {
	m := newMemory(t, 100, 5, 6, greatest)
	from := m.Made()
	checkValues(t, m, 1, 5, 6, greatest)
	checkValues(t, m, 2, 6)
	checkValues(t, m, math.MaxUint64, 0, 0, 5) // Addresses go round.
	checkValues(t, m, 1<<40, 0, 0)
	if l, ok := multi.Values(m, 1, 0); len(l) != 0 || !ok {
		t.Error(l, ok)
	}
	if l, ok := multi.Values(m, 1, api.MaxWide); len(l) != api.MaxWide || !ok {
		t.Error(l, ok)
	}
	for _, n := range []int{-1, math.MinInt, api.MaxWide + 1, math.MaxInt} {
		if l, ok := multi.Values(m, 1, n); l != nil || ok {
			t.Error(l, ok)
		}
	}
	if l, ok := multi.Values(nil, 1, 1); l != nil || ok {
		t.Error(l, ok)
	}
	if l, ok := multi.Values(nil, 1, 0); l != nil || ok {
		t.Error(l, ok)
	}
	if m.Made() != from {
		t.Error("accesses:", made(m, from))
	}
	l, _ := multi.Values(m, 1, 3)
	l[0] = 77
	checkValues(t, m, 1, 5, 6, greatest)
	for i, word := range []uint64{4*9 + 1, 4*9 + 2, 1, 2} {
		m.View(9).Store(3, word)
		if l, ok := multi.Values(m, 1, 3); l != nil || ok {
			t.Error(i, l, ok)
		}
		checkValues(t, m, 1, 5, 6)
	}
	m.View(9).Store(3, 4*9+3)
	checkValues(t, m, 1, 5, 6, 9)
}

// P1 of the document's rules: nil procs, nil views, cells that are none.
func TestNil(t *testing.T) {
	var p *multi.Multi
	var r *multi.Read
	m := newMemory(t, 100, 5)
	from := m.Made()
	if !p.Step(m.View(0)) || p.Done() || p.Errno() != api.ErrNil || !r.Step(m.View(0)) || r.Value() != 0 || m.Made() != from {
		t.Error("a nil proc")
	}
	p = multi.NewMulti([]multi.Entry{entry(1, 5, 6)})
	if !p.Step(nil) || p.Done() || p.Errno() != api.ErrMemory {
		t.Error(p.Done(), p.Errno())
	}
	r = multi.NewRead(1)
	if !r.Step(nil) || r.Value() != 0 {
		t.Error(r.Value())
	}
	checkRead(t, m, 0, 0, "Load 0: 0")
	checkRead(t, m, math.MaxUint64, 0, "Load 18446744073709551615: 0")
	// A proc whose view is lost amid its steps comes to an end: nothing that it loads is there.
	for steps := range 20 {
		p := multi.NewMulti([]multi.Entry{entry(1, 5, 6)})
		step.Alone(m.Fork().View(0), p, steps)
		if !step.Alone(nil, p, 100) {
			t.Error("not done behind", steps)
		}
	}
}
