package walk_test

import (
	"fmt"
	"math"
	"reflect"
	"slices"
	"strings"
	"testing"

	"shutter/api"
	"shutter/arena"
	"shutter/camera"
	"shutter/mix"
	"shutter/step"
	"shutter/trie"
	"shutter/walk"
)

const greatest = math.MaxUint64

// Where the tree of most tests lies, and the first cell behind it.
const (
	clock = 1
	root  = 2
	free  = 66
)

var tree = api.Tree{Camera: clock, Root: root}

// newTrie is a memory with an empty trie.
func newTrie(t *testing.T) *arena.Memory {
	t.Helper()
	m, errno := arena.New(4000, false)
	if errno != api.OK {
		t.Fatal(errno)
	}
	if got, errno := trie.Make(m.View(9)); got != tree || errno != api.OK {
		t.Fatal(got, errno)
	}
	return m
}

// keyOf is the key whose mixed key has these digits, and then noughts.
func keyOf(t *testing.T, digits ...int) uint64 {
	t.Helper()
	h, ok := mix.Join(append(digits, make([]int, api.Levels-len(digits))...))
	if !ok {
		t.Fatal("no digits:", digits)
	}
	return mix.Back(h)
}

// do does procs to their ends, one behind the other.
func do(t *testing.T, m *arena.Memory, procs ...step.Proc) {
	t.Helper()
	for _, p := range procs {
		if !step.Alone(m.View(9), p, 100000) {
			t.Fatalf("%T is not done", p)
		}
	}
}

func put(key, value uint64) step.Proc { return trie.NewPut(tree, key, value) }
func remove(key uint64) step.Proc     { return trie.NewRemove(tree, key) }
func take() step.Proc                 { return camera.NewTake(clock, 1000) }

func getOf(stamp uint64, keys ...uint64) *walk.Get {
	return walk.NewGet(tree, stamp, keys)
}

func rangeOf(stamp, lo, hi uint64) *walk.Range {
	return walk.NewRange(tree, stamp, lo, hi)
}

// pairs are keys with their values, in turn.
func pairs(l ...uint64) []api.Pair {
	var out []api.Pair
	for i := 0; i < len(l); i += 2 {
		out = append(out, api.Pair{Key: l[i], Value: l[i+1]})
	}
	return out
}

func same(a, b []api.Pair) bool {
	return len(a) == len(b) && slices.Equal(a, b)
}

// teller is a proc of this package.
type teller interface {
	step.Proc
	Pairs() []api.Pair
}

// loads is the accesses of a memory's trace behind the first so many, each a Load: its address and what it told.
func loads(t *testing.T, m *arena.Memory, from int) string {
	t.Helper()
	var l []string
	for _, a := range m.Trace()[from:] {
		if a.Kind != api.Load {
			t.Errorf("%+v", a)
		}
		l = append(l, fmt.Sprintf("%d:%d", a.Addr, a.Got))
	}
	return strings.Join(l, " ")
}

// checkSteps lets a proc go to its end, and on, by so many accesses, one a step; it tells nothing ahead of its end, and the same from then on.
func checkSteps(t *testing.T, m *arena.Memory, p teller, want []api.Pair, accesses int) {
	t.Helper()
	from := m.Made()
	for i := range accesses + 3 {
		if i < accesses && len(p.Pairs()) != 0 {
			t.Errorf("ahead of the step %d it tells %v", i, p.Pairs())
		}
		if done := p.Step(m.View(0)); done != (i >= accesses-1) {
			t.Errorf("step %d: done %t", i, done)
		}
		if n := m.Made() - from; n != min(i+1, accesses) {
			t.Errorf("step %d: %d accesses", i, n)
		}
		if i >= accesses-1 && !same(p.Pairs(), want) {
			t.Errorf("behind the step %d it tells %v, not %v", i, p.Pairs(), want)
		}
	}
}

// check does the same of one whose accesses are these Loads.
func check(t *testing.T, m *arena.Memory, p teller, want []api.Pair, accesses string) {
	t.Helper()
	from := m.Made()
	checkSteps(t, m, p, want, len(strings.Fields(accesses)))
	if got := loads(t, m, from); got != accesses {
		t.Errorf("loads: %s\nnot: %s", got, accesses)
	}
}

// The chapter's example 1. The digit of 7 at the level 0 is 4.
func TestExampleOfAnEmptyTrie(t *testing.T) {
	m := newTrie(t)
	check(t, m, getOf(1, 7), nil, "6:0")
	var l []string
	for addr := root; addr < root+64; addr++ {
		l = append(l, fmt.Sprintf("%d:0", addr))
	}
	check(t, m, rangeOf(1, 0, 100), nil, strings.Join(l, " "))
}

// The chapter's example 2.
func TestExampleOfAPicture(t *testing.T) {
	m := newTrie(t)
	do(t, m, put(7, 1), take(), put(7, 2), put(8, 3))
	for _, c := range []struct {
		p    teller
		want []api.Pair
	}{
		{rangeOf(1, 0, 100), pairs(7, 1)},
		{rangeOf(2, 0, 100), pairs(7, 2, 8, 3)},
		{getOf(1, 9, 7, 7), pairs(7, 1, 7, 1)},
	} {
		if do(t, m, c.p); !same(c.p.Pairs(), c.want) {
			t.Errorf("%v, not %v", c.p.Pairs(), c.want)
		}
	}
}

// P12.1: a Get's accesses. 7 lies at 66 with the version 68, then at 71 with 73.
func TestGet(t *testing.T) {
	m := newTrie(t)
	do(t, m, put(7, 1), take(), put(7, 2))
	const head = "6:73 74:2 74:2"
	check(t, m, getOf(2, 7), pairs(7, 2), head+" 73:143 71:7 72:2")
	check(t, m, getOf(1, 7), pairs(7, 1), head+" 75:68 69:1 68:133 66:7 67:1")
	check(t, m, getOf(0, 7), nil, head+" 75:68 69:1 70:0")
	check(t, m, getOf(greatest, 7), pairs(7, 2), head+" 73:143 71:7 72:2")
	check(t, m, getOf(1, 7, 7), pairs(7, 1, 7, 1), head+" 75:68 69:1 68:133 66:7 67:1 "+head+" 75:68 69:1 68:133 66:7 67:1")
	missing := keyOf(t, 5, 1)
	check(t, m, getOf(2, missing, 7, missing), pairs(7, 2), "7:0 "+head+" 73:143 71:7 72:2 7:0")
	beside := keyOf(t, 4, 1)
	check(t, m, getOf(2, beside), nil, head+" 73:143 71:7")
	do(t, m, take(), remove(7)) // a version at 76
	check(t, m, getOf(3, 7), nil, "6:76 77:3 77:3 76:0")
	check(t, m, getOf(2, 7), pairs(7, 2), "6:76 77:3 77:3 78:73 74:2 73:143 71:7 72:2")
}

// P12.1: no keys, or lo above hi: no access, one step.
func TestNothingToDo(t *testing.T) {
	m := newTrie(t)
	do(t, m, put(7, 1))
	for _, p := range []teller{getOf(1), walk.NewGet(tree, 1, []uint64{}), rangeOf(1, 8, 7), rangeOf(1, greatest, 0), rangeOf(1, 1, 0)} {
		from := m.Made()
		if !p.Step(m.View(0)) || !p.Step(m.View(0)) || m.Made() != from || len(p.Pairs()) != 0 {
			t.Errorf("%T: %v, %d accesses", p, p.Pairs(), m.Made()-from)
		}
	}
}

// P12.1: Gets of keys on ways that part late go down level by level.
func TestGetDown(t *testing.T) {
	for level := 1; level < api.Levels; level++ {
		digits := []int{9, 8, 7, 6, 5, 4, 3, 2, 1, 7, 5}
		a := keyOf(t, digits...)
		digits[level]++
		b := keyOf(t, digits...)
		digits[level]++
		c := keyOf(t, digits...)
		m := newTrie(t)
		do(t, m, put(a, 1), put(b, 2), take())
		// The root's object has two versions, and each other object on the way one; each takes four Loads.
		checkSteps(t, m, getOf(1, a), pairs(a, 1), 4*(level+1)+2)
		checkSteps(t, m, getOf(1, b, a), pairs(b, 2, a, 1), 2*(4*(level+1)+2))
		checkSteps(t, m, getOf(1, c, b), pairs(b, 2), 4*level+1+4*(level+1)+2)
	}
}

// lay lays a child's word into an object, by a version of a stamp, and tells the version's address.
func lay(m *arena.Memory, object, child, stamp uint64) uint64 {
	v := m.View(9)
	version := v.Alloc([]uint64{child, stamp, m.Peek(object)})
	v.Store(object, version)
	return version
}

// layLeaf lays a leaf into an object.
func layLeaf(m *arena.Memory, object, key, value uint64) {
	leaf := m.View(9).Alloc([]uint64{key, value})
	lay(m, object, 2*leaf+1, 1)
}

// layBranch lays an empty branch into an object, and tells the branch's address.
func layBranch(m *arena.Memory, object uint64) uint64 {
	branch := m.View(9).Alloc(make([]uint64, api.Fan))
	lay(m, object, 2*branch, 1)
	return branch
}

// P12.1: a Branch at the level 10: a Get goes into it as if there were a level 11 with the digit 0; a Range passes over it.
func TestBranchAtTheLastLevel(t *testing.T) {
	key := keyOf(t, 9, 8, 7, 6, 5, 4, 3, 2, 1, 7, 5)
	for beyond := 1; beyond <= 2; beyond++ {
		m := newTrie(t)
		object := root + uint64(9)
		for level := 1; level <= 10+beyond; level++ {
			object = layBranch(m, object) + uint64(mix.Digit(mix.Mix(key), level))
		}
		layLeaf(m, object, key, 1)
		checkSteps(t, m, getOf(1, key), pairs(key, 1), 4*(11+beyond)+2)
		checkSteps(t, m, rangeOf(1, 0, greatest), nil, 11*(63+4))
	}
}

// P12.1: a Range goes through the objects by rising digits, what lies in one ahead of the next one.
func TestRangeInOrder(t *testing.T) {
	m := newTrie(t)
	a, b, c := keyOf(t, 5, 9), keyOf(t, 5, 20), keyOf(t, 6)
	do(t, m, put(c, 3), put(b, 2), put(a, 1), take())
	// c: the leaf at 66, the version at 68; b: 71, 73; a: 76; versions of b and a at 78 and 81, the branch at 84, its version at 148.
	var l []string
	for addr := root; addr < root+5; addr++ {
		l = append(l, fmt.Sprintf("%d:0", addr))
	}
	l = append(l, "7:148 149:1 149:1 148:168")
	for addr := 84; addr < 84+64; addr++ {
		switch addr {
		case 84 + 9:
			l = append(l, fmt.Sprintf("93:81 82:1 82:1 81:153 76:%d 77:1", a))
		case 84 + 20:
			l = append(l, fmt.Sprintf("104:78 79:1 79:1 78:143 71:%d 72:2", b))
		default:
			l = append(l, fmt.Sprintf("%d:0", addr))
		}
	}
	l = append(l, fmt.Sprintf("8:68 69:1 69:1 68:133 66:%d 67:3", c))
	for addr := root + 7; addr < root+64; addr++ {
		l = append(l, fmt.Sprintf("%d:0", addr))
	}
	want := pairs(a, 1, b, 2, c, 3)
	slices.SortFunc(want, func(a, b api.Pair) int {
		if a.Key < b.Key {
			return -1
		}
		return 1
	})
	check(t, m, rangeOf(1, 0, greatest), want, strings.Join(l, " "))
}

// P12.1: Ranges of all keys, of one, of some; both ends belong to them; the value of a key beside them is not read.
func TestRangeBounds(t *testing.T) {
	m := newTrie(t)
	do(t, m, put(0, 1), put(7, 2), put(8, 3), put(9, 4), put(greatest, 5), take())
	all := pairs(0, 1, 7, 2, 8, 3, 9, 4, greatest, 5)
	full := 0
	for _, c := range [][2]uint64{{0, greatest}, {0, 0}, {7, 7}, {8, 9}, {7, 8}, {1, 6}, {9, greatest}, {greatest, greatest}, {10, greatest - 1}, {0, greatest - 1}, {1, greatest}} {
		want := slices.DeleteFunc(slices.Clone(all), func(p api.Pair) bool { return p.Key < c[0] || p.Key > c[1] })
		p := rangeOf(1, c[0], c[1])
		from := m.Made()
		if do(t, m, p); !same(p.Pairs(), want) {
			t.Errorf("%d: %v, not %v", c, p.Pairs(), want)
		}
		accesses := m.Made() - from
		if full == 0 {
			full = accesses
		}
		if accesses != full-(len(all)-len(want)) {
			t.Errorf("%d: %d accesses, of %d", c, accesses, full)
		}
	}
}

// P12.1: stamps below all versions, between them, and above all.
func TestStamps(t *testing.T) {
	m := newTrie(t)
	do(t, m, take(), put(7, 1), put(8, 2), take(), put(7, 3), remove(8), take(), take(), put(9, 4), put(8, 5))
	for stamp, want := range map[uint64][]api.Pair{
		0: nil, 1: nil,
		2: pairs(7, 1, 8, 2),
		3: pairs(7, 3), 4: pairs(7, 3),
		5: pairs(7, 3, 8, 5, 9, 4), 6: pairs(7, 3, 8, 5, 9, 4), greatest: pairs(7, 3, 8, 5, 9, 4),
	} {
		r, g := rangeOf(stamp, 0, greatest), getOf(stamp, 7, 8, 9)
		if do(t, m, r, g); !same(r.Pairs(), want) || !same(g.Pairs(), want) {
			t.Errorf("stamp %d: %v, %v, not %v", stamp, r.Pairs(), g.Pairs(), want)
		}
	}
}

// P12.1: a walk sees to the stamp of a version that has none.
func TestVersionWithoutStamp(t *testing.T) {
	for _, p := range []teller{getOf(1, 7), rangeOf(1, 0, greatest)} {
		m := newTrie(t)
		w := put(7, 1)
		step.Alone(m.View(0), w, 5) // The version lies there, at 68.
		do(t, m, p)
		if m.Peek(69) != 1 || !same(p.Pairs(), pairs(7, 1)) {
			t.Errorf("the stamp %d: %v", m.Peek(69), p.Pairs())
		}
	}
	m := newTrie(t)
	step.Alone(m.View(0), put(7, 1), 5)
	do(t, m, take())
	p := getOf(1, 7)
	if do(t, m, p); m.Peek(69) != 2 || len(p.Pairs()) != 0 {
		t.Errorf("the stamp %d: %v", m.Peek(69), p.Pairs())
	}
}

// P12.1: of a key that lies in a trie twice, a Range tells the first that was come to.
func TestRangeOfAKeyTwice(t *testing.T) {
	m := newTrie(t)
	layLeaf(m, root+9, 7, 90)
	layLeaf(m, root+8, 7, 80)
	layLeaf(m, root+10, 7, 100)
	layLeaf(m, root+7, 5, 70)
	inner := layBranch(m, root+6)
	layLeaf(m, inner+63, 7, 63)
	layLeaf(m, inner+62, 9, 62)
	checkSteps(t, m, rangeOf(1, 0, greatest), pairs(5, 70, 7, 63, 9, 62), 59+5*4+4*2+62+2*6)
	layLeaf(m, root+1, 7, 1)
	p := rangeOf(1, 6, 8)
	if do(t, m, p); !same(p.Pairs(), pairs(7, 1)) {
		t.Error(p.Pairs())
	}
}

// P12.1: the same of many leaves: the order of like keys is kept.
func TestRangeOfKeysOften(t *testing.T) {
	m := newTrie(t)
	for digit := range uint64(api.Fan) {
		layLeaf(m, root+digit, 2-digit%3, 100-digit)
	}
	checkSteps(t, m, rangeOf(1, 0, greatest), pairs(0, 98, 1, 99, 2, 100), 64*6)
}

// P12.1: a branch within itself is gone through as often as it is come to.
func TestRangeOfABranchWithinItself(t *testing.T) {
	m := newTrie(t)
	lay(m, root+3, 2*root, 1)
	layLeaf(m, root+5, 7, 1)
	checkSteps(t, m, rangeOf(1, 0, greatest), pairs(7, 1), 11*(62+4+4+2))
}

// P3 of the document's rules: the keys may be changed by the caller behind NewGet.
func TestKeysAreTheCallers(t *testing.T) {
	m := newTrie(t)
	do(t, m, put(7, 1), put(8, 2), take())
	whole := []uint64{7, 8, 7, 50}
	p := walk.NewGet(tree, 1, whole[:3])
	whole[0], whole[1] = 8, 9
	step.Alone(m.View(0), p, 8)
	whole[1], whole[2] = 7, 9
	if do(t, m, p); !same(p.Pairs(), pairs(7, 1, 8, 2, 7, 1)) || !reflect.DeepEqual(whole, []uint64{8, 7, 9, 50}) {
		t.Error(p.Pairs(), whole)
	}
}

// P3 of the document's rules: what Pairs tells is the caller's.
func TestPairsAreTheCallers(t *testing.T) {
	m := newTrie(t)
	do(t, m, put(7, 1), put(8, 2), take())
	for _, p := range []teller{getOf(1, 7, 8), rangeOf(1, 0, greatest)} {
		do(t, m, p)
		first, second := p.Pairs(), p.Pairs()
		first[0] = api.Pair{Key: 50}
		if _ = append(first[:1], api.Pair{Key: 60}); !same(second, pairs(7, 1, 8, 2)) || !same(p.Pairs(), pairs(7, 1, 8, 2)) {
			t.Error(second, p.Pairs())
		}
	}
}

// P1 of the document's rules: nil procs.
func TestNilProcs(t *testing.T) {
	var g *walk.Get
	var r *walk.Range
	m := newTrie(t)
	from := m.Made()
	for _, p := range []teller{g, r} {
		if !p.Step(m.View(0)) || !p.Step(nil) || len(p.Pairs()) != 0 || m.Made() != from {
			t.Errorf("%T: %v", p, p.Pairs())
		}
	}
}

// P1 of the document's rules: nil views: every Load tells 0.
func TestNilViews(t *testing.T) {
	g, r := getOf(1, 7, 8), rangeOf(1, 0, greatest)
	if g.Step(nil) || !g.Step(nil) || !g.Step(nil) || len(g.Pairs()) != 0 {
		t.Error("Get:", g.Pairs())
	}
	if step.Alone(nil, r, 63) || !r.Step(nil) || !r.Step(nil) || len(r.Pairs()) != 0 {
		t.Error("Range:", r.Pairs())
	}
	// Views that are nil from each of the steps on.
	m := newTrie(t)
	do(t, m, put(7, 1), take(), put(7, 2), put(keyOf(t, 4, 1), 3))
	for steps := range 90 {
		g, r := getOf(1, 7, 7), rangeOf(1, 0, greatest)
		step.Alone(m.View(0), g, steps)
		step.Alone(m.View(0), r, steps)
		from := m.Made()
		if !step.Alone(nil, g, 200) || !step.Alone(nil, r, 200) || m.Made() != from {
			t.Errorf("behind %d steps: %v, %v", steps, g.Pairs(), r.Pairs())
		}
	}
	// Its last Load is that of the value.
	g = getOf(1, 7)
	m = newTrie(t)
	do(t, m, put(7, 1))
	if step.Alone(m.View(0), g, 5) || !g.Step(nil) || !same(g.Pairs(), pairs(7, 0)) {
		t.Error(g.Pairs())
	}
}

// P1 of the document's rules: trees that are nowhere; addresses go round.
func TestTreesThatAreNone(t *testing.T) {
	for _, tree := range []api.Tree{{Root: 200}, {Camera: 1 << 62, Root: 1 << 62}, {Camera: greatest, Root: greatest - 3}, {Root: greatest}} {
		m, _ := arena.New(128, false)
		g, r := walk.NewGet(tree, 1, []uint64{7}), walk.NewRange(tree, 1, 0, greatest)
		checkSteps(t, m, g, nil, 1)
		checkSteps(t, m, r, nil, 64)
		for i, a := range m.Trace()[1:] {
			if a.Addr != tree.Root+uint64(i) {
				t.Errorf("%v: the object %d at %d", tree, i, a.Addr)
			}
		}
	}
}
