package announce_test

import (
	"fmt"
	"math"
	"reflect"
	"strings"
	"testing"

	"shutter/announce"
	"shutter/api"
	"shutter/arena"
	"shutter/step"
	"shutter/word"
)

const greatest = math.MaxUint64

// Where the camera and the slots of most tests lie.
const (
	clock = 1
	first = 2
)

// slotsOf are so many slots, with stamps up to 100.
func slotsOf(count int) api.Slots {
	return api.Slots{Camera: clock, First: first, Count: count, Most: 100}
}

// newSlots is a memory with a camera at a stamp, and slots that say this, in words like "exact 3 7".
func newSlots(t *testing.T, stamp uint64, says ...string) *arena.Memory {
	t.Helper()
	m, errno := arena.New(400, false)
	if errno != api.OK {
		t.Fatal(errno)
	}
	v := m.View(9)
	v.Alloc([]uint64{stamp})
	for i, text := range says {
		s, errno := word.Parse(text)
		if errno != api.OK {
			t.Fatal(text)
		}
		w, _ := word.Pack(s)
		if v.Alloc([]uint64{w}) != first+uint64(i) {
			t.Fatal("no slot")
		}
	}
	return m
}

func text(w uint64) string {
	s := word.Unpack(w)
	kinds := []string{"free", "claimed", "early", "exact"}
	return fmt.Sprintf("%s %d %d", kinds[s.Kind], s.Gen, s.Stamp)
}

// said is what the slots say, as a text.
func said(m *arena.Memory, count int) string {
	var l []string
	for i := range count {
		l = append(l, text(m.Peek(first+uint64(i))))
	}
	return strings.Join(l, ", ")
}

// made is the accesses of a memory's trace behind the first so many, as a text.
func made(m *arena.Memory, from int) string {
	var l []string
	for _, a := range m.Trace()[from:] {
		name, show := fmt.Sprintf("slot %d", a.Addr-first), text
		if a.Addr == clock {
			name, show = "camera", func(w uint64) string { return fmt.Sprint(w) }
		}
		switch a.Kind {
		case api.Load:
			l = append(l, fmt.Sprintf("Load %s: %s", name, show(a.Got)))
		case api.Store:
			l = append(l, fmt.Sprintf("Store %s %s", name, show(a.A)))
		case api.Cas:
			l = append(l, fmt.Sprintf("Cas %s %s to %s: %t", name, show(a.A), show(a.B), a.Ok))
		default:
			l = append(l, fmt.Sprintf("%+v", a))
		}
	}
	return strings.Join(l, "\n")
}

// told is what a proc tells.
type told struct {
	Handle, Stamp uint64
	Errno         api.Errno
	Floor         uint64
	Stamps        string
}

func tellsOf(p step.Proc) told {
	switch q := p.(type) {
	case *announce.Snapshot:
		return told{Handle: q.Handle(), Stamp: q.Stamp(), Errno: q.Errno()}
	case *announce.Release:
		return told{Errno: q.Errno()}
	}
	need := p.(*announce.Scan).Need()
	return needed(need.Floor, need.Stamps...)
}

func needed(floor uint64, stamps ...uint64) told {
	if len(stamps) == 0 {
		return told{Floor: floor}
	}
	return told{Floor: floor, Stamps: fmt.Sprint(stamps)}
}

// check lets a proc go to its end, and on: its accesses are those, one a step; it tells nothing ahead of its end, and the same from then on.
func check(t *testing.T, m *arena.Memory, p step.Proc, want told, accesses ...string) {
	t.Helper()
	from := m.Made()
	steps := max(len(accesses), 1)
	for i := range steps + 3 {
		if got := tellsOf(p); i < steps && got != (told{}) {
			t.Errorf("ahead of the step %d it tells %+v", i, got)
		}
		if done := p.Step(m.View(0)); done != (i >= steps-1) {
			t.Errorf("step %d: done %t", i, done)
		}
		if n := m.Made() - from; n != min(i+1, len(accesses)) {
			t.Errorf("step %d: %d accesses", i, n)
		}
		if got := tellsOf(p); i >= steps-1 && got != want {
			t.Errorf("step %d: it tells %+v, not %+v", i, got, want)
		}
	}
	if got := made(m, from); got != strings.Join(accesses, "\n") {
		t.Errorf("accesses:\n%s\nnot:\n%s", got, strings.Join(accesses, "\n"))
	}
}

// stepTo lets a proc take so many steps, none of them the last one.
func stepTo(t *testing.T, m *arena.Memory, p step.Proc, steps int) {
	t.Helper()
	for range steps {
		if p.Step(m.View(0)) {
			t.Fatal("it is done too early")
		}
	}
	if got := tellsOf(p); got != (told{}) {
		t.Errorf("it tells %+v ahead of its end", got)
	}
}

func checkSaid(t *testing.T, m *arena.Memory, stamp uint64, says ...string) {
	t.Helper()
	if got := said(m, len(says)); m.Peek(clock) != stamp || got != strings.Join(says, ", ") {
		t.Errorf("camera %d, slots %s, not %d, %s", m.Peek(clock), got, stamp, strings.Join(says, ", "))
	}
}

// The chapter's example 1.
func TestExampleOfSlots(t *testing.T) {
	m := newSlots(t, 1)
	s, errno := announce.Make(m.View(9), clock, 2, 100)
	if s != slotsOf(2) || errno != api.OK {
		t.Fatal(s, errno)
	}
	check(t, m, announce.NewSnapshot(s), told{Handle: 1, Stamp: 1},
		"Load slot 0: free 0 0",
		"Cas slot 0 free 0 0 to claimed 0 0: true",
		"Load camera: 1",
		"Store slot 0 early 0 1",
		"Load camera: 1",
		"Cas camera 1 to 2: true",
		"Store slot 0 exact 0 1")
	if m.Peek(clock) != 2 || m.Peek(first) != 4194307 || m.Peek(first+1) != 0 {
		t.Error(m.Peek(clock), m.Peek(first), m.Peek(first+1))
	}
	check(t, m, announce.NewScan(s), needed(2, 1),
		"Load camera: 2",
		"Load slot 0: exact 0 1",
		"Load slot 1: free 0 0")
	check(t, m, announce.NewRelease(s, 1), told{},
		"Load slot 0: exact 0 1",
		"Cas slot 0 exact 0 1 to free 1 0: true")
	check(t, m, announce.NewRelease(s, 1), told{Errno: api.ErrHandle},
		"Load slot 0: free 1 0")
	check(t, m, announce.NewSnapshot(s), told{Handle: 65537, Stamp: 2},
		"Load slot 0: free 1 0",
		"Cas slot 0 free 1 0 to claimed 1 0: true",
		"Load camera: 2",
		"Store slot 0 early 1 2",
		"Load camera: 2",
		"Cas camera 2 to 3: true",
		"Store slot 0 exact 1 2")
}

// The chapter's example 2.
func TestExampleOfTheLastStamp(t *testing.T) {
	m := newSlots(t, 1, "free 7 0")
	s := slotsOf(1)
	s.Most = 1
	check(t, m, announce.NewSnapshot(s), told{Errno: api.ErrStamp},
		"Load slot 0: free 7 0",
		"Cas slot 0 free 7 0 to claimed 7 0: true",
		"Load camera: 1",
		"Store slot 0 early 7 1",
		"Load camera: 1",
		"Store slot 0 free 7 0")
}

// P13.1: a Snapshot passes over slots that are not free, and over one whose generation is the last.
func TestSnapshotPassesOver(t *testing.T) {
	m := newSlots(t, 5, "claimed 0 0", "early 3 2", "exact 1 4", "free 1048575 0", "free 1048574 0", "free 0 0")
	check(t, m, announce.NewSnapshot(slotsOf(6)), told{Handle: 5 + 1048574<<16, Stamp: 5},
		"Load slot 0: claimed 0 0",
		"Load slot 1: early 3 2",
		"Load slot 2: exact 1 4",
		"Load slot 3: free 1048575 0",
		"Load slot 4: free 1048574 0",
		"Cas slot 4 free 1048574 0 to claimed 1048574 0: true",
		"Load camera: 5",
		"Store slot 4 early 1048574 5",
		"Load camera: 5",
		"Cas camera 5 to 6: true",
		"Store slot 4 exact 1048574 5")
	checkSaid(t, m, 6, "claimed 0 0", "early 3 2", "exact 1 4", "free 1048575 0", "exact 1048574 5", "free 0 0")
	check(t, m, announce.NewSnapshot(slotsOf(5)), told{Errno: api.ErrSlot},
		"Load slot 0: claimed 0 0",
		"Load slot 1: early 3 2",
		"Load slot 2: exact 1 4",
		"Load slot 3: free 1048575 0",
		"Load slot 4: exact 1048574 5")
}

// P13.1: a slot that is free is taken, whatever its stamp is; what was loaded is awaited.
func TestSnapshotOfASlotWithAStamp(t *testing.T) {
	m := newSlots(t, 5, "free 2 9")
	check(t, m, announce.NewSnapshot(slotsOf(1)), told{Handle: 1 + 2<<16, Stamp: 5},
		"Load slot 0: free 2 9",
		"Cas slot 0 free 2 9 to claimed 2 0: true",
		"Load camera: 5",
		"Store slot 0 early 2 5",
		"Load camera: 5",
		"Cas camera 5 to 6: true",
		"Store slot 0 exact 2 5")
}

// P13.1, P13.6: where another one is quicker, the next slot is tried, and this one not again; behind the last one: ErrSlot.
func TestSnapshotThatComesTooLate(t *testing.T) {
	m := newSlots(t, 5, "free 0 0", "free 0 0", "free 0 0")
	p := announce.NewSnapshot(slotsOf(2))
	from := m.Made()
	stepTo(t, m, p, 1)
	m.View(7).Store(first, 1)
	stepTo(t, m, p, 1)
	m.View(7).Store(first, 0)
	stepTo(t, m, p, 1)
	// As free as before, but of another generation.
	m.View(7).Store(first+1, 4)
	if !p.Step(m.View(0)) || tellsOf(p) != (told{Errno: api.ErrSlot}) {
		t.Error(tellsOf(p))
	}
	checkSaid(t, m, 5, "free 0 0", "free 1 0", "free 0 0")
	if n := m.Made() - from; n != 4+3 || !p.Step(m.View(0)) || m.Made() != from+n {
		t.Error(made(m, from))
	}
	p = announce.NewSnapshot(slotsOf(2))
	stepTo(t, m, p, 1)
	m.View(7).Store(first, 1)
	stepTo(t, m, p, 7)
	if !p.Step(m.View(0)) || tellsOf(p) != (told{Handle: 2 + 1<<16, Stamp: 5}) {
		t.Error(tellsOf(p))
	}
	checkSaid(t, m, 6, "claimed 0 0", "exact 1 5", "free 0 0")
}

// P13.1, P13.4: the stamp is what the camera says behind the announcement, whoever turns it on.
func TestSnapshotWhileTheCameraTurns(t *testing.T) {
	m := newSlots(t, 5, "free 0 0")
	p := announce.NewSnapshot(slotsOf(1))
	stepTo(t, m, p, 3)
	m.View(7).Store(clock, 6)
	stepTo(t, m, p, 1)
	checkSaid(t, m, 6, "early 0 5")
	m.View(7).Store(clock, 8)
	stepTo(t, m, p, 1)
	m.View(7).Store(clock, 9)
	stepTo(t, m, p, 1)
	checkSaid(t, m, 9, "early 0 5")
	if !p.Step(m.View(0)) || tellsOf(p) != (told{Handle: 1, Stamp: 8}) {
		t.Error(tellsOf(p))
	}
	checkSaid(t, m, 9, "exact 0 8")
}

// P13.1: Most is asked for when the stamp is taken: at it, one below, above, and at the ends of all numbers.
func TestMost(t *testing.T) {
	for _, c := range []struct {
		stamp, most uint64
		errno       api.Errno
	}{
		{99, 100, api.OK},
		{100, 100, api.ErrStamp},
		{101, 100, api.ErrStamp},
		{0, 1, api.OK},
		{1, 1, api.ErrStamp},
		{0, 0, api.ErrStamp},
		{7, 0, api.ErrStamp},
		{api.MaxStamp - 1, api.MaxStamp, api.OK},
		{api.MaxStamp, api.MaxStamp, api.ErrStamp},
		{greatest - 1, greatest, api.OK},
		{greatest, greatest, api.ErrStamp},
	} {
		m := newSlots(t, c.stamp, "free 3 0", "free 0 0")
		s := slotsOf(2)
		s.Most = c.most
		p := announce.NewSnapshot(s)
		stepTo(t, m, p, 5)
		if c.errno == api.OK {
			stepTo(t, m, p, 1)
		}
		want, now, says := told{Handle: 1 + 3<<16, Stamp: c.stamp}, c.stamp+1, fmt.Sprintf("exact 3 %d", c.stamp%(1<<42))
		if c.errno != api.OK {
			want, now, says = told{Errno: c.errno}, c.stamp, "free 3 0"
		}
		if !p.Step(m.View(0)) || tellsOf(p) != want {
			t.Errorf("%d of %d: %+v", c.stamp, c.most, tellsOf(p))
		}
		checkSaid(t, m, now, says, "free 0 0")
	}
}

// P13.1: it is not asked for ahead of that: when the slot is taken, or announced.
func TestMostIsAskedForOnce(t *testing.T) {
	m := newSlots(t, 100, "free 0 0")
	p := announce.NewSnapshot(slotsOf(1))
	stepTo(t, m, p, 4)
	m.View(7).Store(clock, 99)
	stepTo(t, m, p, 1)
	m.View(7).Store(clock, 200)
	stepTo(t, m, p, 1)
	if !p.Step(m.View(0)) || tellsOf(p) != (told{Handle: 1, Stamp: 99}) {
		t.Error(tellsOf(p))
	}
	checkSaid(t, m, 200, "exact 0 99")
}

// P13.1: of stamps that word.Pack does not take, as many bits are stored as word.Unpack reads.
func TestStampsThatAreTooGreat(t *testing.T) {
	for _, c := range []struct{ stamp, says uint64 }{
		{api.MaxStamp + 1, api.MaxStamp + 1},
		{1<<42 - 1, 1<<42 - 1},
		{1 << 42, 0},
		{1<<42 + 5, 5},
		{1<<63 + 1<<41 + 9, 1<<41 + 9},
	} {
		m := newSlots(t, c.stamp, "free 2 0")
		s := slotsOf(1)
		s.Most = greatest
		says := fmt.Sprint(c.says)
		check(t, m, announce.NewSnapshot(s), told{Handle: 1 + 2<<16, Stamp: c.stamp},
			"Load slot 0: free 2 0",
			"Cas slot 0 free 2 0 to claimed 2 0: true",
			fmt.Sprintf("Load camera: %d", c.stamp),
			"Store slot 0 early 2 "+says,
			fmt.Sprintf("Load camera: %d", c.stamp),
			fmt.Sprintf("Cas camera %d to %d: true", c.stamp, c.stamp+1),
			"Store slot 0 exact 2 "+says)
	}
}

// P13.1: Counts that may not be: below 0, and above MaxSlots.
func TestCounts(t *testing.T) {
	m := newSlots(t, 5, "exact 0 3", "early 0 2")
	for _, count := range []int{0, -1, math.MinInt} {
		s := slotsOf(count)
		check(t, m, announce.NewSnapshot(s), told{Errno: api.ErrSlot})
		check(t, m, announce.NewRelease(s, 1), told{Errno: api.ErrHandle})
		check(t, m, announce.NewScan(s), needed(5), "Load camera: 5")
		if l := announce.Slots(m, s); len(l) != 0 {
			t.Error(count, l)
		}
	}
	checkSaid(t, m, 5, "exact 0 3", "early 0 2")
	for addr := range uint64(300) {
		m.View(9).Store(first+addr, 1)
	}
	for _, count := range []int{256, 257, math.MaxInt} {
		s := slotsOf(count)
		p, q := announce.NewSnapshot(s), announce.NewScan(s)
		stepTo(t, m, p, 255)
		stepTo(t, m, q, 256)
		if !p.Step(m.View(0)) || !q.Step(m.View(0)) || tellsOf(p) != (told{Errno: api.ErrSlot}) || tellsOf(q) != needed(5) {
			t.Error(count, tellsOf(p), tellsOf(q))
		}
		if l := announce.Slots(m, s); len(l) != 256 || l[255] != (api.Slot{Kind: api.Claimed}) {
			t.Error(count, l)
		}
		check(t, m, announce.NewRelease(s, 257), told{Errno: api.ErrHandle})
		check(t, m, announce.NewRelease(s, 256), told{Errno: api.ErrHandle}, "Load slot 255: claimed 0 0")
	}
}

// P13.1: a handle that is none, or another slots', is let go without an access.
func TestReleaseOfNone(t *testing.T) {
	m := newSlots(t, 5, "exact 0 3", "exact 1 4", "exact 0 2")
	for _, handle := range []uint64{0, 3, 1<<16 + 3, 1 << 16, 256, 257, 1<<16 - 1, 1 + 1<<36, 1<<63 + 1, greatest} {
		check(t, m, announce.NewRelease(slotsOf(2), handle), told{Errno: api.ErrHandle})
	}
	checkSaid(t, m, 5, "exact 0 3", "exact 1 4", "exact 0 2")
}

// P13.1: a handle whose slot says something else.
func TestReleaseOfOneThatDoesNotHold(t *testing.T) {
	for _, says := range []string{"free 4 0", "claimed 4 0", "early 4 3", "exact 3 3", "exact 5 3", "free 5 0", "exact 0 3"} {
		m := newSlots(t, 5, "exact 4 1", says)
		check(t, m, announce.NewRelease(slotsOf(2), 2+4<<16), told{Errno: api.ErrHandle}, "Load slot 1: "+says)
		checkSaid(t, m, 5, "exact 4 1", says)
	}
}

// P13.1: one that is let go by another, between the Load and the Cas.
func TestReleaseThatComesTooLate(t *testing.T) {
	m := newSlots(t, 5, "exact 4 1")
	p, q := announce.NewRelease(slotsOf(1), 1+4<<16), announce.NewRelease(slotsOf(1), 1+4<<16)
	stepTo(t, m, p, 1)
	stepTo(t, m, q, 1)
	from := m.Made()
	if !q.Step(m.View(0)) || !p.Step(m.View(0)) || tellsOf(q) != (told{}) || tellsOf(p) != (told{Errno: api.ErrHandle}) {
		t.Error(tellsOf(q), tellsOf(p))
	}
	if got := made(m, from); got != "Cas slot 0 exact 4 1 to free 5 0: true\nCas slot 0 exact 4 1 to free 5 0: false" {
		t.Error(got)
	}
	checkSaid(t, m, 5, "free 5 0")
}

// P13.1: the last generations: behind the last one that is taken the slot is free for good.
func TestLastGenerations(t *testing.T) {
	const last = api.MaxGen - 1
	m := newSlots(t, 5, "exact 1048574 1")
	check(t, m, announce.NewRelease(slotsOf(1), 1+(last-1)<<16), told{},
		"Load slot 0: exact 1048574 1",
		"Cas slot 0 exact 1048574 1 to free 1048575 0: true")
	for range 2 {
		check(t, m, announce.NewSnapshot(slotsOf(1)), told{Errno: api.ErrSlot}, "Load slot 0: free 1048575 0")
	}
	// This does not come up: a generation that word.Pack does not take leaves no bit in the stamp.
	m = newSlots(t, 5, "exact 1048575 1")
	check(t, m, announce.NewRelease(slotsOf(1), 1+last<<16), told{},
		"Load slot 0: exact 1048575 1",
		"Cas slot 0 exact 1048575 1 to free 0 0: true")
	if m.Peek(first) != 0 {
		t.Error(m.Peek(first))
	}
}

// P13.1: what a Scan makes of slots.
func TestScan(t *testing.T) {
	for _, c := range []struct {
		stamp uint64
		says  []string
		want  told
	}{
		{9, nil, needed(9)},
		{0, []string{"exact 0 0"}, needed(0)},
		{9, []string{"free 0 0", "claimed 0 0", "free 3 2", "claimed 5 1"}, needed(9)},
		{9, []string{"exact 0 4"}, needed(9, 4)},
		{9, []string{"exact 0 8"}, needed(9, 8)},
		{9, []string{"exact 0 9"}, needed(9)},
		{9, []string{"exact 0 10", "early 2 11"}, needed(9)},
		{9, []string{"early 0 9"}, needed(9)},
		{9, []string{"early 0 8"}, needed(8)},
		{9, []string{"early 0 5", "early 7 3", "early 1 4"}, needed(3)},
		{9, []string{"early 0 0", "exact 0 0"}, needed(0)},
		{9, []string{"exact 0 7", "exact 1 2", "exact 1 5", "exact 9 2", "exact 0 7"}, needed(9, 2, 5, 7)},
		{9, []string{"exact 0 7", "exact 1 2", "early 0 5", "exact 1 5", "exact 9 4"}, needed(5, 2, 4)},
		{9, []string{"exact 0 2", "exact 1 1", "free 0 0", "early 0 1"}, needed(1)},
		{9, []string{"exact 0 0", "claimed 1 1", "exact 1 0"}, needed(9, 0)},
		{greatest, []string{"exact 0 1099511627776", "early 1048575 1099511627776"}, needed(api.MaxStamp)},
		{greatest, []string{"exact 0 1099511627776", "exact 1048575 1"}, needed(greatest, 1, api.MaxStamp)},
	} {
		m := newSlots(t, c.stamp, append(c.says, "exact 0 1")...)
		accesses := []string{fmt.Sprintf("Load camera: %d", c.stamp)}
		for i, text := range c.says {
			accesses = append(accesses, fmt.Sprintf("Load slot %d: %s", i, text))
		}
		check(t, m, announce.NewScan(slotsOf(len(c.says))), c.want, accesses...)
	}
}

// P13.1: the camera is read first, each slot when it is looked at.
func TestScanWhileSlotsChange(t *testing.T) {
	m := newSlots(t, 9, "exact 0 3", "free 0 0", "early 0 2")
	p := announce.NewScan(slotsOf(3))
	stepTo(t, m, p, 2)
	v := m.View(7)
	v.Store(clock, 1)
	v.Store(first, 0)
	v.Store(first+1, 3+4*8+6<<22)
	stepTo(t, m, p, 1)
	v.Store(first+2, 2+4<<22)
	if !p.Step(m.View(0)) || tellsOf(p) != needed(4, 3) {
		t.Error(tellsOf(p))
	}
	v.Store(first+2, 0)
	if !p.Step(m.View(0)) || tellsOf(p) != needed(4, 3) {
		t.Error(tellsOf(p))
	}
}

// P3 of the document's rules: the Stamps that were told are the caller's.
func TestNeedIsTheCallers(t *testing.T) {
	m := newSlots(t, 9, "exact 0 3", "exact 0 2", "exact 0 11", "exact 0 12")
	p := announce.NewScan(slotsOf(4))
	step.Alone(m.View(0), p, 5)
	l := p.Need().Stamps
	l[0] = 77
	_ = append(l, 88)
	k := p.Need().Stamps
	_ = append(k, 99)
	if tellsOf(p) != needed(9, 2, 3) || !reflect.DeepEqual(k, []uint64{2, 3}) {
		t.Error(p.Need(), k)
	}
}

// P5 of the document's rules: addresses go round; slots that are no cells' are loaded as 0, and none can be taken.
func TestSlotsThatAreNoCells(t *testing.T) {
	m := newSlots(t, 5)
	s := api.Slots{Camera: clock, First: greatest - 1, Count: 3, Most: 100}
	p := announce.NewSnapshot(s)
	from := m.Made()
	stepTo(t, m, p, 10)
	if !p.Step(m.View(0)) || tellsOf(p) != (told{Handle: 3, Stamp: 5}) {
		t.Error(tellsOf(p), made(m, from))
	}
	if m.Peek(0) != 3+5<<22 || m.Peek(clock) != 6 {
		t.Error(m.Peek(0), m.Peek(clock))
	}
	if l := announce.Slots(m, s); !reflect.DeepEqual(l, []api.Slot{{}, {}, {Kind: api.Exact, Stamp: 5}}) {
		t.Error(l)
	}
	q := announce.NewScan(s)
	step.Alone(m.View(0), q, 4)
	if tellsOf(q) != needed(6, 5) {
		t.Error(tellsOf(q))
	}
	r := announce.NewRelease(s, 3)
	step.Alone(m.View(0), r, 2)
	if tellsOf(r) != (told{}) || m.Peek(0) != 4 {
		t.Error(tellsOf(r), m.Peek(0))
	}
	// A camera that is no cell: it says 0, and cannot be turned on.
	s = api.Slots{Camera: greatest, First: first, Count: 1, Most: 100}
	p = announce.NewSnapshot(s)
	step.Alone(m.View(0), p, 7)
	if tellsOf(p) != (told{Handle: 1}) || text(m.Peek(first)) != "exact 0 0" {
		t.Error(tellsOf(p), text(m.Peek(first)))
	}
}

// P13.2: Make's bounds, and one beyond each; P2: what is named first is told, and nothing is done.
func TestMakeRange(t *testing.T) {
	m := newSlots(t, 1)
	from, left := m.Made(), m.Left()
	for _, c := range []struct {
		count int
		most  uint64
	}{
		{0, 1}, {-1, 1}, {math.MinInt, 1}, {257, 1}, {math.MaxInt, 1}, {1, 0}, {1, api.MaxStamp + 1}, {1, greatest}, {0, 0},
	} {
		if s, errno := announce.Make(m.View(0), clock, c.count, c.most); s != (api.Slots{}) || errno != api.ErrRange {
			t.Error(c, s, errno)
		}
		if s, errno := announce.Make(nil, clock, c.count, c.most); s != (api.Slots{}) || errno != api.ErrNil {
			t.Error(c, s, errno)
		}
	}
	if s, errno := announce.Make(nil, clock, 1, 1); s != (api.Slots{}) || errno != api.ErrNil {
		t.Error(s, errno)
	}
	if m.Made() != from || m.Left() != left {
		t.Error(made(m, from))
	}
	// The camera may be whatever it is.
	for _, c := range []api.Slots{{Camera: 0, First: 2, Count: 1, Most: 1}, {Camera: greatest, First: 3, Count: 256, Most: api.MaxStamp}} {
		if s, errno := announce.Make(m.View(0), c.Camera, c.Count, c.Most); s != c || errno != api.OK {
			t.Error(c, s, errno)
		}
	}
}

// P13.2: just room enough, and one cell too few; one access.
func TestMakeMemory(t *testing.T) {
	m := newSlots(t, 1)
	v := m.View(0)
	v.Alloc(make([]uint64, m.Left()-5))
	start := uint64(m.Cells() - 5)
	for addr := start; addr < start+5; addr++ {
		v.Store(addr, 7)
	}
	from := m.Made()
	if s, errno := announce.Make(v, clock, 6, 9); s != (api.Slots{}) || errno != api.ErrMemory || m.Left() != 5 {
		t.Error(s, errno)
	}
	if s, errno := announce.Make(v, clock, 5, 9); s != (api.Slots{Camera: clock, First: start, Count: 5, Most: 9}) || errno != api.OK {
		t.Error(s, errno)
	}
	want := []api.Access{{Kind: api.Alloc, Values: make([]uint64, 6)}, {Kind: api.Alloc, Addr: start, Values: make([]uint64, 5)}}
	if got := m.Trace()[from:]; !reflect.DeepEqual(got, want) {
		t.Error(got)
	}
	if l := announce.Slots(m, api.Slots{First: start, Count: 5}); !reflect.DeepEqual(l, make([]api.Slot, 5)) {
		t.Error(l)
	}
}

// P13.2: Slots are what the words say, in their order, such words as word.Pack does not make too; no access.
func TestSlots(t *testing.T) {
	m := newSlots(t, 1, "exact 3 7", "free 0 0", "claimed 1048575 0", "early 2 1099511627776", "exact 0 1")
	m.View(9).Store(first+4, greatest)
	want := []api.Slot{
		{Kind: api.Exact, Gen: 3, Stamp: 7},
		{},
		{Kind: api.Claimed, Gen: api.MaxGen - 1},
		{Kind: api.Early, Gen: 2, Stamp: api.MaxStamp},
		{Kind: api.Exact, Gen: 1<<20 - 1, Stamp: 1<<42 - 1},
		{},
	}
	from := m.Made()
	for count := range 7 {
		l := announce.Slots(m, slotsOf(count))
		if len(l) != count || count > 0 && !reflect.DeepEqual(l, want[:count]) {
			t.Error(count, l)
		}
	}
	if m.Made() != from {
		t.Error(made(m, from))
	}
	if l := announce.Slots(nil, slotsOf(3)); len(l) != 0 {
		t.Error(l)
	}
}

// P1 of the document's rules: nil procs, and nil views.
func TestNil(t *testing.T) {
	m := newSlots(t, 5, "free 0 0", "exact 0 2")
	from := m.Made()
	var p *announce.Snapshot
	var q *announce.Release
	var r *announce.Scan
	for _, v := range []*arena.View{nil, m.View(0)} {
		if !p.Step(v) || !q.Step(v) || !r.Step(v) {
			t.Error("a nil proc is not done")
		}
	}
	if tellsOf(p) != (told{Errno: api.ErrNil}) || tellsOf(q) != (told{Errno: api.ErrNil}) || tellsOf(r) != (told{}) {
		t.Error(tellsOf(p), tellsOf(q), tellsOf(r))
	}
	for _, c := range []struct {
		proc  step.Proc
		steps int
		want  told
	}{
		{announce.NewSnapshot(slotsOf(2)), 4, told{Errno: api.ErrSlot}},
		{announce.NewSnapshot(slotsOf(0)), 1, told{Errno: api.ErrSlot}},
		{announce.NewRelease(slotsOf(2), 2), 1, told{Errno: api.ErrHandle}},
		{announce.NewRelease(slotsOf(2), 9), 1, told{Errno: api.ErrHandle}},
		{announce.NewScan(slotsOf(2)), 3, told{}},
	} {
		for i := range c.steps + 2 {
			if done := c.proc.Step(nil); done != (i >= c.steps-1) {
				t.Errorf("%T, step %d: done %t", c.proc, i, done)
			}
		}
		if tellsOf(c.proc) != c.want {
			t.Errorf("%T tells %+v", c.proc, tellsOf(c.proc))
		}
	}
	if m.Made() != from {
		t.Error(made(m, from))
	}
}

// P1 of the document's rules: a step on a nil view makes no access, but goes on.
func TestNilViewsBetween(t *testing.T) {
	m := newSlots(t, 5, "exact 0 2", "free 0 0", "free 0 0")
	p := announce.NewSnapshot(slotsOf(3))
	stepTo(t, m, p, 2) // slot 0 is not free, slot 1 is
	p.Step(nil)        // that Cas is not done
	stepTo(t, m, p, 2)
	checkSaid(t, m, 5, "exact 0 2", "free 0 0", "claimed 0 0")
	p.Step(nil) // the camera says 0
	stepTo(t, m, p, 1)
	checkSaid(t, m, 5, "exact 0 2", "free 0 0", "early 0 0")
	stepTo(t, m, p, 1)
	p.Step(nil) // the camera is not turned on
	if !p.Step(nil) || tellsOf(p) != (told{Handle: 3, Stamp: 5}) {
		t.Error(tellsOf(p))
	}
	checkSaid(t, m, 5, "exact 0 2", "free 0 0", "early 0 0")
	r := announce.NewRelease(slotsOf(3), 1)
	stepTo(t, m, r, 1)
	if !r.Step(nil) || tellsOf(r) != (told{Errno: api.ErrHandle}) {
		t.Error(tellsOf(r))
	}
	checkSaid(t, m, 5, "exact 0 2", "free 0 0", "early 0 0")
}
