package vcas_test

import (
	"fmt"
	"math"
	"reflect"
	"strings"
	"testing"

	"shutter/api"
	"shutter/arena"
	"shutter/camera"
	"shutter/step"
	"shutter/vcas"
)

// Where the camera and the objects of most tests lie.
const (
	clock  = 1
	object = 2
	second = 3
)

const greatest = math.MaxUint64

// newMemory has a camera at the stamp, and two objects without a version; cells from 4 on are free.
func newMemory(t *testing.T, cells int, stamp uint64) *arena.Memory {
	t.Helper()
	m, errno := arena.New(cells, false)
	if errno != api.OK {
		t.Fatal(errno)
	}
	m.View(9).Alloc([]uint64{stamp, 0, 0})
	return m
}

// withVersions is a memory whose object has versions, the newest first, each with its value and stamp; their records begin at 4, 7, 10 and so on.
func withVersions(t *testing.T, stamp uint64, versions ...api.Version) *arena.Memory {
	t.Helper()
	m := newMemory(t, 128, stamp)
	v := m.View(9)
	for i, version := range versions {
		older := uint64(0)
		if i+1 < len(versions) {
			older = uint64(4 + 3*(i+1))
		}
		v.Alloc([]uint64{version.Value, version.Stamp, older})
	}
	if len(versions) > 0 {
		v.Store(object, 4)
	}
	return m
}

// made is the accesses of a memory's trace behind the first so many, as a text.
func made(m *arena.Memory, from int) string {
	var l []string
	for _, a := range m.Trace()[from:] {
		switch a.Kind {
		case api.Load:
			l = append(l, fmt.Sprintf("Load %d: %d", a.Addr, a.Got))
		case api.Cas:
			l = append(l, fmt.Sprintf("Cas %d %d %d: %t", a.Addr, a.A, a.B, a.Ok))
		case api.Alloc:
			l = append(l, fmt.Sprintf("Alloc %d: %d", a.Values, a.Addr))
		default:
			l = append(l, fmt.Sprintf("%+v", a))
		}
	}
	return strings.Join(l, ", ")
}

// told is what a proc tells.
type told struct {
	Value uint64
	Done  bool
	Errno api.Errno
}

// tellsOf is what a proc of this package tells.
func tellsOf(p step.Proc) told {
	switch p := p.(type) {
	case *vcas.Read:
		return told{Value: p.Value()}
	case *vcas.Cas:
		return told{Done: p.Done(), Errno: p.Errno()}
	case *vcas.At:
		return told{Value: p.Value()}
	}
	return told{}
}

// check lets a proc go to its end, and on: its accesses are those, one a step (none, if there is no access at all); it tells nothing ahead of its end, and the same from then on.
func check(t *testing.T, m *arena.Memory, p step.Proc, want told, accesses string) {
	t.Helper()
	from := m.Made()
	count := 0
	if accesses != "" {
		count = strings.Count(accesses, ", ") + 1
	}
	for i := range count + 3 {
		if i < count && tellsOf(p) != (told{}) {
			t.Errorf("ahead of the step %d it tells %+v", i, tellsOf(p))
		}
		done := p.Step(m.View(0))
		if done != (i >= count-1) {
			t.Errorf("step %d: done %t", i, done)
		}
		if n := m.Made() - from; n != min(i+1, count) {
			t.Errorf("step %d: %d accesses", i, n)
		}
	}
	if got := tellsOf(p); got != want {
		t.Errorf("it tells %+v, not %+v", got, want)
	}
	if got := made(m, from); got != accesses {
		t.Errorf("accesses: %s\nnot: %s", got, accesses)
	}
}

// checkVersions checks P9.2.
func checkVersions(t *testing.T, m *arena.Memory, object uint64, want ...api.Version) {
	t.Helper()
	before := m.Made()
	got := vcas.Versions(m, object)
	if len(got) != len(want) || len(want) > 0 && !reflect.DeepEqual(got, want) {
		t.Errorf("versions %v, not %v", got, want)
	}
	if m.Made() != before {
		t.Error("Versions made an access")
	}
}

// The chapter's examples.
func TestExamples(t *testing.T) {
	m := newMemory(t, 128, 1)
	check(t, m, vcas.NewRead(clock, object), told{}, "Load 2: 0")
	check(t, m, vcas.NewCas(clock, object, 0, 5), told{Done: true},
		"Load 2: 0, Alloc [5 0 0]: 4, Cas 2 0 4: true, Load 5: 0, Load 1: 1, Cas 5 0 1: true")
	check(t, m, vcas.NewRead(clock, object), told{Value: 5}, "Load 2: 4, Load 5: 1, Load 4: 5")
	check(t, m, vcas.NewCas(clock, object, 0, 6), told{}, "Load 2: 4, Load 5: 1, Load 4: 5")
	step.Alone(m.View(0), camera.NewTake(clock, 100), 2)
	check(t, m, vcas.NewCas(clock, object, 5, 6), told{Done: true},
		"Load 2: 4, Load 5: 1, Load 4: 5, Alloc [6 0 4]: 7, Cas 2 4 7: true, Load 8: 0, Load 1: 2, Cas 8 0 2: true")
	check(t, m, vcas.NewAt(clock, object, 1), told{Value: 5},
		"Load 2: 7, Load 8: 2, Load 8: 2, Load 9: 4, Load 5: 1, Load 4: 5")
	check(t, m, vcas.NewAt(clock, object, 2), told{Value: 6}, "Load 2: 7, Load 8: 2, Load 8: 2, Load 7: 6")
	check(t, m, vcas.NewAt(clock, object, 0), told{},
		"Load 2: 7, Load 8: 2, Load 8: 2, Load 9: 4, Load 5: 1, Load 6: 0")
	checkVersions(t, m, object, api.Version{Value: 6, Stamp: 2}, api.Version{Value: 5, Stamp: 1})
}

// P9.1: an Init of a version with a stamp, and without one.
func TestInit(t *testing.T) {
	m := withVersions(t, 7, api.Version{Value: 50, Stamp: 3})
	check(t, m, vcas.NewInit(clock, 4), told{}, "Load 5: 3")
	m = withVersions(t, 7, api.Version{Value: 50})
	check(t, m, vcas.NewInit(clock, 4), told{}, "Load 5: 0, Load 1: 7, Cas 5 0 7: true")
	checkVersions(t, m, object, api.Version{Value: 50, Stamp: 7})
}

// P9.1: an Init that another one is ahead of: the stamp that was told first stays; the one that it tells is the one that it read.
func TestInitTooLate(t *testing.T) {
	m := withVersions(t, 7, api.Version{Value: 50})
	v := m.View(0)
	early, late := vcas.NewInit(clock, 4), vcas.NewInit(clock, 4)
	if late.Step(v) || late.Step(v) {
		t.Error("done by its Loads")
	}
	m.View(9).Store(clock, 8)
	step.Alone(v, early, 3)
	if m.Peek(5) != 8 || !late.Step(v) || m.Peek(5) != 8 {
		t.Error("the stamp", m.Peek(5))
	}
	from := m.Made()
	late.Step(v)
	if m.Made() != from {
		t.Error("a step of one that is done made an access")
	}
	m = withVersions(t, 7, api.Version{Value: 50})
	late = vcas.NewInit(clock, 4)
	late.Step(m.View(0))
	late.Step(m.View(0))
	m.View(9).Store(clock, 8)
	if !late.Step(m.View(0)) || m.Peek(5) != 7 {
		t.Error("the stamp", m.Peek(5))
	}
}

// P9.1: Reads.
func TestRead(t *testing.T) {
	for _, value := range []uint64{0, 50, greatest} {
		m := withVersions(t, 7, api.Version{Value: value, Stamp: 3}, api.Version{Value: 60, Stamp: 1})
		check(t, m, vcas.NewRead(clock, object), told{Value: value}, fmt.Sprintf("Load 2: 4, Load 5: 3, Load 4: %d", value))
		m = withVersions(t, 7, api.Version{Value: value}, api.Version{Value: 60, Stamp: 1})
		check(t, m, vcas.NewRead(clock, object), told{Value: value},
			fmt.Sprintf("Load 2: 4, Load 5: 0, Load 1: 7, Cas 5 0 7: true, Load 4: %d", value))
	}
}

// P9.1: a Cas whose value is not the awaited one: it was not done, also where its old is its now.
func TestCasOfAnotherValue(t *testing.T) {
	m := newMemory(t, 128, 7)
	check(t, m, vcas.NewCas(clock, object, 1, 2), told{}, "Load 2: 0")
	check(t, m, vcas.NewCas(clock, object, 1, 1), told{}, "Load 2: 0")
	check(t, m, vcas.NewCas(clock, object, greatest, 0), told{}, "Load 2: 0")
	m = withVersions(t, 7, api.Version{Value: 50, Stamp: 3})
	for _, c := range [][2]uint64{{0, 9}, {51, 9}, {49, 49}, {0, 50}, {7, 50}, {4, 9}, {3, 9}} {
		check(t, m, vcas.NewCas(clock, object, c[0], c[1]), told{}, "Load 2: 4, Load 5: 3, Load 4: 50")
	}
	m = withVersions(t, 7, api.Version{Value: 50})
	check(t, m, vcas.NewCas(clock, object, 9, 10), told{}, "Load 2: 4, Load 5: 0, Load 1: 7, Cas 5 0 7: true, Load 4: 50")
}

// P9.1: a Cas whose old is its now: done without a new version, if the value is the awaited one.
func TestCasOfNothingNew(t *testing.T) {
	m := newMemory(t, 128, 7)
	check(t, m, vcas.NewCas(clock, object, 0, 0), told{Done: true}, "Load 2: 0")
	m = withVersions(t, 7, api.Version{Value: 50})
	check(t, m, vcas.NewCas(clock, object, 50, 50), told{Done: true},
		"Load 2: 4, Load 5: 0, Load 1: 7, Cas 5 0 7: true, Load 4: 50")
	checkVersions(t, m, object, api.Version{Value: 50, Stamp: 7})
}

// P9.1: a Cas to 0 makes a version as any other.
func TestCasToNothing(t *testing.T) {
	m := withVersions(t, 7, api.Version{Value: 50, Stamp: 3})
	check(t, m, vcas.NewCas(clock, object, 50, 0), told{Done: true},
		"Load 2: 4, Load 5: 3, Load 4: 50, Alloc [0 0 4]: 7, Cas 2 4 7: true, Load 8: 0, Load 1: 7, Cas 8 0 7: true")
	checkVersions(t, m, object, api.Version{Stamp: 7}, api.Version{Value: 50, Stamp: 3})
	check(t, m, vcas.NewCas(clock, object, 0, 1), told{Done: true},
		"Load 2: 7, Load 8: 7, Load 7: 0, Alloc [1 0 7]: 10, Cas 2 7 10: true, Load 11: 0, Load 1: 7, Cas 11 0 7: true")
	checkVersions(t, m, object, api.Version{Value: 1, Stamp: 7}, api.Version{Stamp: 7}, api.Version{Value: 50, Stamp: 3})
}

// P9.1: a Cas whose Alloc has no room, or just room enough.
func TestCasWithoutRoom(t *testing.T) {
	for left := range 4 {
		m := newMemory(t, 128, 7)
		m.View(9).Alloc(make([]uint64, m.Left()-left))
		at := uint64(128 - left)
		if left == 3 {
			check(t, m, vcas.NewCas(clock, object, 0, 5), told{Done: true},
				"Load 2: 0, Alloc [5 0 0]: 125, Cas 2 0 125: true, Load 126: 0, Load 1: 7, Cas 126 0 7: true")
			checkVersions(t, m, object, api.Version{Value: 5, Stamp: 7})
			check(t, m, vcas.NewCas(clock, object, 5, 6), told{Errno: api.ErrMemory}, "Load 2: 125, Load 126: 7, Load 125: 5, Alloc [6 0 125]: 0")
			continue
		}
		check(t, m, vcas.NewCas(clock, object, 0, 5), told{Errno: api.ErrMemory}, "Load 2: 0, Alloc [5 0 0]: 0")
		check(t, m, vcas.NewCas(clock, object, 0, 0), told{Done: true}, "Load 2: 0")
		check(t, m, vcas.NewCas(clock, object, 1, 2), told{}, "Load 2: 0")
		if m.Peek(object) != 0 || m.Left() != left || m.Peek(at) != 0 {
			t.Error("behind ErrMemory:", m.Peek(object), m.Left())
		}
	}
}

// P9.1: a Cas that another one is ahead of, between its Load and its Cas: it sees to the stamp of the version that it finds then.
func TestCasTooLate(t *testing.T) {
	m := newMemory(t, 128, 7)
	late, early := vcas.NewCas(clock, object, 0, 5), vcas.NewCas(clock, object, 0, 6)
	v, w := m.View(0), m.View(1)
	from := m.Made()
	late.Step(v)
	late.Step(v)
	for range 3 {
		early.Step(w)
	}
	for i, done := range []bool{false, false, false, false, true, true} {
		if late.Done() || late.Errno() != api.OK {
			t.Error("done at the step", i)
		}
		if got := late.Step(v); got != done {
			t.Errorf("step %d: %t", i, got)
		}
	}
	if late.Done() || late.Errno() != api.OK || early.Done() {
		t.Error(late.Done(), late.Errno(), early.Done())
	}
	want := "Load 2: 0, Alloc [5 0 0]: 4, Load 2: 0, Alloc [6 0 0]: 7, Cas 2 0 7: true, " +
		"Cas 2 0 4: false, Load 2: 7, Load 8: 0, Load 1: 7, Cas 8 0 7: true"
	if got := made(m, from); got != want {
		t.Error(got)
	}
	if !early.Step(w) || !early.Done() {
		t.Error("the early one has not seen the stamp")
	}
	checkVersions(t, m, object, api.Version{Value: 6, Stamp: 7})
}

// P9.1: the same, if the value is by then the awaited one again: it is not done all the same.
func TestCasThereAndBack(t *testing.T) {
	m := withVersions(t, 7, api.Version{Value: 50, Stamp: 3})
	late := vcas.NewCas(clock, object, 50, 60)
	for range 4 {
		late.Step(m.View(0))
	}
	step.Alone(m.View(1), vcas.NewCas(clock, object, 50, 51), 20)
	step.Alone(m.View(1), vcas.NewCas(clock, object, 51, 50), 20)
	from := m.Made()
	if !step.Alone(m.View(0), late, 3) || late.Done() || late.Errno() != api.OK {
		t.Error(late.Done(), late.Errno())
	}
	if got := made(m, from); got != "Cas 2 4 7: false, Load 2: 13, Load 14: 7" {
		t.Error(got)
	}
}

// P9.1: a Cas whose version another thread has seen to: nothing is left but to look.
func TestCasWhoseStampIsTold(t *testing.T) {
	m := newMemory(t, 128, 7)
	c := vcas.NewCas(clock, object, 0, 5)
	for range 3 {
		c.Step(m.View(0))
	}
	step.Alone(m.View(1), vcas.NewRead(clock, object), 20)
	from := m.Made()
	if c.Done() || !c.Step(m.View(0)) || !c.Done() || made(m, from) != "Load 5: 7" {
		t.Error(c.Done(), made(m, from))
	}
}

// P9.1: At of stamps below all, above all, between, and of versions with like stamps.
func TestAt(t *testing.T) {
	versions := []api.Version{{Value: 50, Stamp: 9}, {Value: 40, Stamp: 6}, {Value: 0, Stamp: 6}, {Value: 20, Stamp: 2}}
	head := "Load 2: 4, Load 5: 9, Load 5: 9, "
	for _, c := range []struct {
		stamp, value uint64
		accesses     string
	}{
		{greatest, 50, head + "Load 4: 50"},
		{10, 50, head + "Load 4: 50"},
		{9, 50, head + "Load 4: 50"},
		{8, 40, head + "Load 6: 7, Load 8: 6, Load 7: 40"},
		{6, 40, head + "Load 6: 7, Load 8: 6, Load 7: 40"},
		{5, 20, head + "Load 6: 7, Load 8: 6, Load 9: 10, Load 11: 6, Load 12: 13, Load 14: 2, Load 13: 20"},
		{2, 20, head + "Load 6: 7, Load 8: 6, Load 9: 10, Load 11: 6, Load 12: 13, Load 14: 2, Load 13: 20"},
		{1, 0, head + "Load 6: 7, Load 8: 6, Load 9: 10, Load 11: 6, Load 12: 13, Load 14: 2, Load 15: 0"},
		{0, 0, head + "Load 6: 7, Load 8: 6, Load 9: 10, Load 11: 6, Load 12: 13, Load 14: 2, Load 15: 0"},
	} {
		m := withVersions(t, 10, versions...)
		check(t, m, vcas.NewAt(clock, object, c.stamp), told{Value: c.value}, c.accesses)
	}
}

// P9.1: At of an object without a version, and of one whose newest version has no stamp yet.
func TestAtOfTheNewest(t *testing.T) {
	m := newMemory(t, 128, 7)
	check(t, m, vcas.NewAt(clock, object, 100), told{}, "Load 2: 0")
	m = withVersions(t, 7, api.Version{Value: 50})
	check(t, m, vcas.NewAt(clock, object, 6), told{},
		"Load 2: 4, Load 5: 0, Load 1: 7, Cas 5 0 7: true, Load 5: 7, Load 6: 0")
	m = withVersions(t, 7, api.Version{Value: 50})
	check(t, m, vcas.NewAt(clock, object, 7), told{Value: 50},
		"Load 2: 4, Load 5: 0, Load 1: 7, Cas 5 0 7: true, Load 5: 7, Load 4: 50")
	m = withVersions(t, 7, api.Version{Value: 50}, api.Version{Value: 40, Stamp: 5})
	check(t, m, vcas.NewAt(clock, object, 6), told{Value: 40},
		"Load 2: 4, Load 5: 0, Load 1: 7, Cas 5 0 7: true, Load 5: 7, Load 6: 7, Load 8: 5, Load 7: 40")
}

// P9.1: an At looks at the stamp as it is when it comes to it, not at what Init saw.
func TestAtLooksAgain(t *testing.T) {
	m := withVersions(t, 7, api.Version{Value: 50})
	p := vcas.NewAt(clock, object, 3)
	for range 4 {
		p.Step(m.View(0))
	}
	m.View(9).Store(5, 3)
	if p.Step(m.View(0)) || p.Value() != 0 || !p.Step(m.View(0)) || p.Value() != 50 {
		t.Error(p.Value())
	}
}

// P9.2: what Versions tells is the caller's.
func TestVersionsAreTheCallers(t *testing.T) {
	m := withVersions(t, 7, api.Version{Value: 50, Stamp: 3}, api.Version{Value: 40, Stamp: 2})
	l := vcas.Versions(m, object)
	l[0] = api.Version{}
	checkVersions(t, m, object, api.Version{Value: 50, Stamp: 3}, api.Version{Value: 40, Stamp: 2})
	m.View(0).Store(4, 99)
	if l[1] != (api.Version{Value: 40, Stamp: 2}) || vcas.Versions(m, object)[0].Value != 99 {
		t.Error(l)
	}
}

// P9.2: no version, one without a stamp, objects that are no cells, and no memory at all.
func TestVersionsOfLittle(t *testing.T) {
	m := newMemory(t, 128, 7)
	for _, o := range []uint64{0, object, second, 127, 128, 129, 1 << 40, greatest} {
		checkVersions(t, m, o)
	}
	for _, o := range []uint64{0, object, greatest} {
		if len(vcas.Versions(nil, o)) != 0 {
			t.Error("versions of no memory")
		}
	}
	checkVersions(t, withVersions(t, 7, api.Version{Value: 50}), object, api.Version{Value: 50})
	m.View(0).Store(0, 60)
	checkVersions(t, m, 0, api.Version{})
}

// P9.2: a chain that comes back to itself has as many as the memory has cells.
func TestVersionsOfARing(t *testing.T) {
	for _, cells := range []int{128, 131} {
		m := newMemory(t, cells, 7)
		v := m.View(9)
		v.Alloc([]uint64{50, 9, 7, 40, 6, 4})
		v.Store(object, 4)
		l := vcas.Versions(m, object)
		if len(l) != cells {
			t.Fatal(len(l), "of", cells)
		}
		for i, got := range l {
			want := api.Version{Value: 50, Stamp: 9}
			if i%2 == 1 {
				want = api.Version{Value: 40, Stamp: 6}
			}
			if got != want {
				t.Fatal(i, got)
			}
		}
		v.Store(6, 4)
		if l = vcas.Versions(m, object); len(l) != cells {
			t.Error(len(l), "of", cells)
		}
	}
}

// P9.2: a chain that leads out of the memory, or to a record of which only a part lies in it.
func TestVersionsThatLeadOut(t *testing.T) {
	first := api.Version{Value: 50, Stamp: 9}
	for _, c := range []struct {
		addr uint64
		want []api.Version
	}{
		{124, []api.Version{{Value: 1240, Stamp: 1250}}},
		{125, []api.Version{{Value: 1250}}},
		{126, nil}, {127, nil}, {128, nil}, {1 << 62, nil},
		{greatest - 3, nil}, {greatest - 2, nil}, {greatest - 1, nil}, {greatest, nil},
	} {
		m := newMemory(t, 128, 7)
		v := m.View(9)
		v.Alloc([]uint64{50, 9, c.addr})
		v.Store(object, 4)
		v.Store(second, c.addr)
		v.Store(124, 1240)
		v.Store(125, 1250)
		v.Store(0, 77)
		checkVersions(t, m, object, append([]api.Version{first}, c.want...)...)
		checkVersions(t, m, second, c.want...)
	}
}

// P9.2: the record of a version may be any three cells but those from 0 on.
func TestVersionsAnywhere(t *testing.T) {
	m := newMemory(t, 128, 7)
	m.View(0).Store(object, 1)
	m.View(0).Store(second, 0)
	checkVersions(t, m, object, api.Version{Value: 7, Stamp: 1})
	m.View(0).Store(second, 125)
	m.View(0).Store(127, 60)
	checkVersions(t, m, object, api.Version{Value: 7, Stamp: 1}, api.Version{}, api.Version{})
}

// P9.1: an At of a ring goes round as long as the stamps are above its own, and each of its steps ends.
func TestAtOfARing(t *testing.T) {
	m := newMemory(t, 128, 7)
	v := m.View(9)
	v.Alloc([]uint64{50, 9, 7, 40, 6, 4})
	v.Store(object, 4)
	p := vcas.NewAt(clock, object, 3)
	from := m.Made()
	if step.Alone(m.View(0), p, 1002) || p.Value() != 0 {
		t.Error("it has come to an end:", p.Value())
	}
	if m.Made()-from != 1002 {
		t.Error("accesses:", m.Made()-from)
	}
	v.Store(8, 3)
	if !step.Alone(m.View(0), p, 5) || p.Value() != 40 {
		t.Error(p.Value())
	}
	check(t, m, vcas.NewAt(clock, object, 3), told{Value: 40}, "Load 2: 4, Load 5: 9, Load 5: 9, Load 6: 7, Load 8: 3, Load 7: 40")
}

// P9.1 and P1 of the document's rules: cameras, objects and versions that are no cells; addresses go round.
func TestNoCells(t *testing.T) {
	m := withVersions(t, 7, api.Version{Value: 50})
	check(t, m, vcas.NewInit(500, 4), told{}, "Load 5: 0, Load 500: 0, Cas 5 0 0: true")
	check(t, m, vcas.NewInit(greatest, 500), told{},
		fmt.Sprintf("Load 501: 0, Load %d: 0, Cas 501 0 0: false", uint64(greatest)))
	check(t, m, vcas.NewInit(clock, greatest), told{}, "Load 0: 0, Load 1: 7, Cas 0 0 7: true")
	check(t, m, vcas.NewInit(clock, greatest), told{}, "Load 0: 7")
	check(t, m, vcas.NewRead(clock, 128), told{}, "Load 128: 0")
	check(t, m, vcas.NewAt(clock, 128, 9), told{}, "Load 128: 0")
	check(t, m, vcas.NewCas(clock, 128, 0, 0), told{Done: true}, "Load 128: 0")
	check(t, m, vcas.NewCas(clock, 128, 1, 2), told{}, "Load 128: 0")
	check(t, m, vcas.NewCas(clock, 128, 0, 5), told{},
		"Load 128: 0, Alloc [5 0 0]: 7, Cas 128 0 7: false, Load 128: 0, Load 1: 7")
	m.View(9).Store(1, 0)
	check(t, m, vcas.NewCas(clock, 128, 0, 5), told{},
		"Load 128: 0, Alloc [5 0 0]: 10, Cas 128 0 10: false, Load 128: 0, Load 1: 0, Load 1: 0, Cas 1 0 0: true")
}

// P9.1: an object whose version is no cell, or only in part.
func TestVersionsThatAreNoCells(t *testing.T) {
	m := newMemory(t, 128, 7)
	m.View(9).Store(object, 300)
	check(t, m, vcas.NewRead(clock, object), told{}, "Load 2: 300, Load 301: 0, Load 1: 7, Cas 301 0 7: false, Load 300: 0")
	check(t, m, vcas.NewAt(clock, object, 9), told{}, "Load 2: 300, Load 301: 0, Load 1: 7, Cas 301 0 7: false, Load 301: 0, Load 300: 0")
	check(t, m, vcas.NewCas(clock, object, 1, 5), told{}, "Load 2: 300, Load 301: 0, Load 1: 7, Cas 301 0 7: false, Load 300: 0")
	check(t, m, vcas.NewCas(clock, object, 0, 5), told{Done: true},
		"Load 2: 300, Load 301: 0, Load 1: 7, Cas 301 0 7: false, Load 300: 0, Alloc [5 0 300]: 4, Cas 2 300 4: true, Load 5: 0, Load 1: 7, Cas 5 0 7: true")
	check(t, m, vcas.NewAt(clock, object, 3), told{}, "Load 2: 4, Load 5: 7, Load 5: 7, Load 6: 300, Load 301: 0, Load 300: 0")
	m.View(9).Store(object, 126)
	m.View(9).Store(126, 60)
	m.View(9).Store(127, 5)
	check(t, m, vcas.NewAt(clock, object, 5), told{Value: 60}, "Load 2: 126, Load 127: 5, Load 127: 5, Load 126: 60")
	check(t, m, vcas.NewAt(clock, object, 4), told{}, "Load 2: 126, Load 127: 5, Load 127: 5, Load 128: 0")
}

// P1 of the document's rules: nil procs.
func TestNilProcs(t *testing.T) {
	var i *vcas.Init
	var r *vcas.Read
	var c *vcas.Cas
	var a *vcas.At
	m := newMemory(t, 128, 7)
	from := m.Made()
	for _, v := range []*arena.View{m.View(0), nil} {
		if !i.Step(v) || !r.Step(v) || !c.Step(v) || !a.Step(v) {
			t.Error("a nil proc is not done")
		}
	}
	if r.Value() != 0 || c.Done() || c.Errno() != api.ErrNil || a.Value() != 0 || m.Made() != from {
		t.Error(r.Value(), c.Done(), c.Errno(), a.Value())
	}
}

// checkSteps lets a proc take steps on a nil view: so many of them are its own.
func checkSteps(t *testing.T, p step.Proc, count int, want told) {
	t.Helper()
	for i := range count + 2 {
		if i < count && tellsOf(p) != (told{}) {
			t.Errorf("ahead of the step %d it tells %+v", i, tellsOf(p))
		}
		if done := p.Step(nil); done != (i >= count-1) {
			t.Errorf("step %d: %t", i, done)
		}
	}
	if tellsOf(p) != want {
		t.Errorf("%+v, not %+v", tellsOf(p), want)
	}
}

// P1 of the document's rules: nil views: a Load answers 0, a Cas false, an Alloc 0; but the proc goes on.
func TestNilViews(t *testing.T) {
	checkSteps(t, vcas.NewInit(clock, 4), 3, told{})
	checkSteps(t, vcas.NewRead(clock, object), 1, told{})
	checkSteps(t, vcas.NewCas(clock, object, 0, 5), 2, told{Errno: api.ErrMemory})
	checkSteps(t, vcas.NewCas(clock, object, 0, 0), 1, told{Done: true})
	checkSteps(t, vcas.NewCas(clock, object, 5, 0), 1, told{})
	checkSteps(t, vcas.NewAt(clock, object, 5), 1, told{})
}

// P1 of the document's rules: a view that is nil in the middle of a proc.
func TestNilViewsInBetween(t *testing.T) {
	m := withVersions(t, 7, api.Version{Value: 50, Stamp: 3})
	r := vcas.NewRead(clock, object)
	r.Step(m.View(0))
	checkSteps(t, r, 4, told{})
	a := vcas.NewAt(clock, object, 2)
	a.Step(m.View(0))
	checkSteps(t, a, 5, told{})
	c := vcas.NewCas(clock, object, 50, 60)
	for range 4 {
		c.Step(m.View(0))
	}
	checkSteps(t, c, 5, told{})
	if m.Peek(object) != 4 || m.Peek(5) != 3 {
		t.Error(m.Peek(object), m.Peek(5))
	}
	c = vcas.NewCas(clock, object, 50, 60)
	for range 5 {
		c.Step(m.View(0))
	}
	checkSteps(t, c, 3, told{Done: true})
	checkVersions(t, m, object, api.Version{Value: 60}, api.Version{Value: 50, Stamp: 3})
}
