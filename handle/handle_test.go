package handle_test

import (
	"fmt"
	"math"
	"slices"
	"strings"
	"testing"

	"shutter/announce"
	"shutter/api"
	"shutter/arena"
	"shutter/handle"
	"shutter/step"
	"shutter/word"
)

const greatest = math.MaxUint64

// Where the camera and the slots of most tests lie.
const (
	clock = 1
	first = 2
)

// slotsOf are so many slots, with stamps up to 100.
func slotsOf(count int) api.Slots {
	return api.Slots{Camera: clock, First: first, Count: count, Most: 100}
}

// newSlots is a memory with a camera, and slots that say this, in words like "exact 3 7".
func newSlots(t *testing.T, says ...string) *arena.Memory {
	t.Helper()
	m, errno := arena.New(400, false)
	if errno != api.OK {
		t.Fatal(errno)
	}
	m.View(9).Alloc([]uint64{1})
	for i, text := range says {
		s, errno := word.Parse(text)
		if errno != api.OK {
			t.Fatal(text)
		}
		w, _ := word.Pack(s)
		m.View(9).Store(first+uint64(i), w)
	}
	return m
}

// handleOf is the handle of a slot and a generation.
func handleOf(slot, gen uint64) uint64 { return slot + 1 + gen<<16 }

// told is what a proc tells.
type told struct {
	Stamp uint64
	Errno api.Errno
}

func tellsOf(p step.Proc) told {
	if q, ok := p.(*handle.Open); ok {
		return told{q.Stamp(), q.Errno()}
	}
	return told{Errno: p.(*handle.Close).Errno()}
}

// check lets a proc take its step, and more: it loads this cell, if it loads one at all; it tells nothing ahead, and the same from then on.
func check(t *testing.T, m *arena.Memory, p step.Proc, want told, loads ...uint64) {
	t.Helper()
	from := m.Made()
	if got := tellsOf(p); got != (told{}) {
		t.Errorf("ahead of its step it tells %+v", got)
	}
	for range 3 {
		if !p.Step(m.View(4)) {
			t.Error("it is not done")
		}
		if got := tellsOf(p); got != want {
			t.Errorf("it tells %+v, not %+v", got, want)
		}
		if m.Made() != from+len(loads) {
			t.Errorf("%d accesses", m.Made()-from)
		}
	}
	for i, a := range m.Trace()[from:] {
		if a.Kind != api.Load || a.Addr != loads[i] || a.Thread != 4 {
			t.Errorf("access %+v, not a Load of %d", a, loads[i])
		}
	}
}

func checkOpen(t *testing.T, m *arena.Memory, s api.Slots, h, stamp uint64, loads ...uint64) {
	t.Helper()
	check(t, m, handle.NewOpen(s, h), told{Stamp: stamp}, loads...)
}

func checkNoOpen(t *testing.T, m *arena.Memory, s api.Slots, h uint64, loads ...uint64) {
	t.Helper()
	check(t, m, handle.NewOpen(s, h), told{Errno: api.ErrHandle}, loads...)
}

func checkClose(t *testing.T, m *arena.Memory, s api.Slots, h, stamp uint64, errno api.Errno, loads ...uint64) {
	t.Helper()
	check(t, m, handle.NewClose(s, h, stamp), told{Errno: errno}, loads...)
}

func checkLive(t *testing.T, m *arena.Memory, s api.Slots, want ...uint64) {
	t.Helper()
	from := m.Made()
	if got := handle.Live(m, s); !slices.Equal(got, want) {
		t.Errorf("live %d, not %d", got, want)
	}
	if m.Made() != from {
		t.Error("Live made accesses")
	}
}

// The chapter's example.
func TestExample(t *testing.T) {
	m := newSlots(t)
	v := m.View(0)
	s, errno := announce.Make(v, clock, 2, 100)
	if s != slotsOf(2) || errno != api.OK {
		t.Fatal(s, errno)
	}
	p := announce.NewSnapshot(s)
	if !step.Alone(v, p, 7) || p.Handle() != 1 || p.Stamp() != 1 {
		t.Error(p.Handle(), p.Stamp())
	}
	checkOpen(t, m, s, 1, 1, first)
	checkClose(t, m, s, 1, 1, api.OK, first)
	checkClose(t, m, s, 1, 2, api.ErrStale, first)
	checkNoOpen(t, m, s, 65537, first)
	checkNoOpen(t, m, s, 0)
	checkLive(t, m, s, 1)
	step.Alone(v, announce.NewRelease(s, 1), 2)
	checkNoOpen(t, m, s, 1, first)
	checkClose(t, m, s, 1, 1, api.ErrStale, first)
	checkLive(t, m, s)
}

// P14.1: slots of all kinds, and generations beside the handle's.
func TestKinds(t *testing.T) {
	s := slotsOf(3)
	for _, kind := range []string{"free", "claimed", "early", "exact"} {
		for _, gen := range []uint64{0, 4, 5, 6, 1 << 19, api.MaxGen - 1} {
			for _, stamp := range []uint64{0, 1, 7, api.MaxStamp} {
				says := fmt.Sprintf("%s %d %d", kind, gen, stamp)
				m := newSlots(t, "exact 5 9", says, "exact 5 8")
				h := handleOf(1, 5)
				if says == fmt.Sprintf("exact 5 %d", stamp) {
					checkOpen(t, m, s, h, stamp, first+1)
					checkClose(t, m, s, h, stamp, api.OK, first+1)
				} else {
					checkNoOpen(t, m, s, h, first+1)
					checkClose(t, m, s, h, stamp, api.ErrStale, first+1)
				}
				for _, other := range []uint64{stamp + 1, stamp - 1, 9, 8, stamp + 1<<42, greatest} {
					checkClose(t, m, s, h, other, api.ErrStale, first+1)
				}
			}
		}
	}
}

// P14.1: the generation 0, and the last one.
func TestGenerations(t *testing.T) {
	m := newSlots(t, "exact 0 3", "exact 1048575 4")
	s := slotsOf(2)
	checkOpen(t, m, s, 1, 3, first)
	checkOpen(t, m, s, handleOf(1, api.MaxGen-1), 4, first+1)
	checkNoOpen(t, m, s, handleOf(0, api.MaxGen-1), first)
	checkNoOpen(t, m, s, handleOf(1, 0), first+1)
	checkClose(t, m, s, handleOf(1, api.MaxGen-1), 4, api.OK, first+1)
	checkLive(t, m, s, 1, handleOf(1, api.MaxGen-1))
	// Words that word.Pack does not make.
	m.View(9).Store(first, greatest)
	checkOpen(t, m, s, handleOf(0, api.MaxGen-1), 1<<42-1, first)
	checkClose(t, m, s, handleOf(0, api.MaxGen-1), 1<<42-1, api.OK, first)
	checkLive(t, m, s, handleOf(0, api.MaxGen-1), handleOf(1, api.MaxGen-1))
}

// P14.1: handles that are none, or of a slot that is not there: no access.
func TestHandlesOfNone(t *testing.T) {
	m := newSlots(t, "exact 0 3", "exact 0 4", "exact 0 5")
	s := slotsOf(2)
	for _, h := range []uint64{0, 3, handleOf(2, 1), 1 << 16, 256, 257, 1<<16 - 1, 1 + api.MaxGen<<16, 1<<63 + 1, greatest} {
		checkNoOpen(t, m, s, h)
		for _, stamp := range []uint64{0, 3, 4, 5, greatest} {
			checkClose(t, m, s, h, stamp, api.ErrStale)
		}
	}
}

// P14.1, P14.2: Counts that may not be: below 0, and above MaxSlots.
func TestCounts(t *testing.T) {
	m := newSlots(t, "exact 0 3")
	for slot := range uint64(300) {
		m.View(9).Store(first+slot, 3+3<<22)
	}
	for _, count := range []int{0, -1, math.MinInt} {
		s := slotsOf(count)
		checkNoOpen(t, m, s, 1)
		checkClose(t, m, s, 1, 3, api.ErrStale)
		checkLive(t, m, s)
	}
	for _, count := range []int{256, 257, math.MaxInt} {
		s := slotsOf(count)
		checkOpen(t, m, s, 256, 3, first+255)
		checkClose(t, m, s, 256, 3, api.OK, first+255)
		checkNoOpen(t, m, s, 257)
		checkClose(t, m, s, 257, 3, api.ErrStale)
		if l := handle.Live(m, s); len(l) != 256 || l[0] != 1 || l[255] != 256 {
			t.Error(count, l)
		}
	}
}

// P14.2: handles that hold, rising: by the generation first.
func TestLiveRises(t *testing.T) {
	m := newSlots(t, "exact 2 3", "exact 1 9", "early 0 1", "exact 0 4", "claimed 0 0", "free 0 0", "exact 1 4", "exact 0 7")
	checkLive(t, m, slotsOf(7), 4, handleOf(1, 1), handleOf(6, 1), handleOf(0, 2))
	checkLive(t, m, slotsOf(2), handleOf(1, 1), handleOf(0, 2))
	checkLive(t, m, slotsOf(1), handleOf(0, 2))
}

// P3 of the document's rules: a list that was told is the caller's.
func TestLiveIsTheCallers(t *testing.T) {
	m := newSlots(t, "exact 0 3", "exact 0 4")
	l := handle.Live(m, slotsOf(2))
	l[0] = 77
	checkLive(t, m, slotsOf(2), 1, 2)
}

// P5 of the document's rules: addresses go round; a slot that is no cell is free.
func TestSlotsThatAreNoCells(t *testing.T) {
	m := newSlots(t)
	m.View(9).Store(0, 3+5<<22)
	s := api.Slots{Camera: clock, First: greatest, Count: 2, Most: 100}
	checkOpen(t, m, s, 2, 5, 0)
	checkClose(t, m, s, 2, 5, api.OK, 0)
	checkNoOpen(t, m, s, 1, greatest)
	checkClose(t, m, s, 1, 0, api.ErrStale, greatest)
	checkLive(t, m, s, 2)
}

// P1 of the document's rules: nil procs, views and memories.
func TestNil(t *testing.T) {
	m := newSlots(t, "exact 0 3")
	from := m.Made()
	var p *handle.Open
	var q *handle.Close
	if !p.Step(m.View(0)) || !p.Step(nil) || tellsOf(p) != (told{Errno: api.ErrNil}) {
		t.Error("a nil Open:", tellsOf(p))
	}
	if !q.Step(m.View(0)) || !q.Step(nil) || tellsOf(q) != (told{Errno: api.ErrNil}) {
		t.Error("a nil Close:", tellsOf(q))
	}
	s := slotsOf(1)
	for _, c := range []struct {
		proc step.Proc
		want api.Errno
	}{
		{handle.NewOpen(s, 1), api.ErrHandle},
		{handle.NewOpen(s, 0), api.ErrHandle},
		{handle.NewClose(s, 1, 3), api.ErrStale},
		{handle.NewClose(s, 1, 0), api.ErrStale},
		{handle.NewClose(s, 0, 0), api.ErrStale},
	} {
		// Behind the step on no view it is done, and asks no more.
		if !c.proc.Step(nil) || !c.proc.Step(m.View(0)) || tellsOf(c.proc) != (told{Errno: c.want}) {
			t.Errorf("%T: %+v", c.proc, tellsOf(c.proc))
		}
	}
	if m.Made() != from {
		t.Error("accesses:", m.Made()-from)
	}
	if l := handle.Live(nil, s); len(l) != 0 {
		t.Error(l)
	}
}

// P14.1: what was told stays, whatever becomes of the slot.
func TestToldStays(t *testing.T) {
	m := newSlots(t, "exact 0 3")
	s := slotsOf(1)
	p, q := handle.NewOpen(s, 1), handle.NewClose(s, 1, 3)
	p.Step(m.View(0))
	q.Step(m.View(0))
	m.View(9).Store(first, 0)
	p.Step(m.View(0))
	q.Step(m.View(0))
	if tellsOf(p) != (told{Stamp: 3}) || tellsOf(q) != (told{}) {
		t.Error(tellsOf(p), tellsOf(q))
	}
}

// P14.6: of whatever slots, Live has a handle just if an Open tells a stamp of it.
func TestLiveAndOpen(t *testing.T) {
	kinds := strings.Fields("free claimed early exact")
	for i := range 256 {
		var says []string
		for slot := range 4 {
			says = append(says, fmt.Sprintf("%s %d %d", kinds[i>>(2*slot)&3], slot%2, slot))
		}
		m := newSlots(t, says...)
		l := handle.Live(m, slotsOf(4))
		for gen := range uint64(3) {
			for slot := range uint64(6) {
				p := handle.NewOpen(slotsOf(4), handleOf(slot, gen))
				p.Step(m.View(0))
				if has := slices.Contains(l, handleOf(slot, gen)); has != (p.Errno() == api.OK) {
					t.Fatal(says, l, slot, gen, p.Errno())
				}
			}
		}
	}
}
