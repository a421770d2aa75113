package cut_test

import (
	"fmt"
	"math"
	"math/rand"
	"slices"
	"strings"
	"testing"

	"shutter/announce"
	"shutter/api"
	"shutter/arena"
	"shutter/camera"
	"shutter/cut"
	"shutter/mix"
	"shutter/step"
	"shutter/trie"
	"shutter/vcas"
)

const greatest = math.MaxUint64

// Where the tree and the slots of most tests lie.
const (
	clock = 1
	root  = 2
	first = 66
)

var (
	tree  = api.Tree{Camera: clock, Root: root}
	slots = api.Slots{Camera: clock, First: first, Count: 2, Most: 1000}
)

// newTrie is a memory with an empty trie and two free slots.
func newTrie(t *testing.T) *arena.Memory {
	t.Helper()
	m, errno := arena.New(4000, false)
	if errno != api.OK {
		t.Fatal(errno)
	}
	if got, errno := trie.Make(m.View(9)); got != tree || errno != api.OK {
		t.Fatal(got, errno)
	}
	if got, errno := announce.Make(m.View(9), clock, 2, 1000); got != slots || errno != api.OK {
		t.Fatal(got, errno)
	}
	return m
}

// newRow is a memory whose cell 1 is an object with versions of these stamps, the newest first, whose values are ten times as much.
func newRow(t *testing.T, stamps ...uint64) *arena.Memory {
	t.Helper()
	m, errno := arena.New(128, false)
	if errno != api.OK {
		t.Fatal(errno)
	}
	m.View(9).Alloc([]uint64{0})
	for _, s := range slices.Backward(stamps) {
		lay(m, 1, 10*s, s)
	}
	return m
}

// lay lets an object have a new version.
func lay(m *arena.Memory, object, value, stamp uint64) uint64 {
	v := m.View(9)
	version := v.Alloc([]uint64{value, stamp, m.Peek(object)})
	v.Store(object, version)
	return version
}

// layBranch lets an object have a new branch.
func layBranch(m *arena.Memory, object uint64) uint64 {
	branch := m.View(9).Alloc(make([]uint64, api.Fan))
	lay(m, object, 2*branch, 1)
	return branch
}

// stampsOf are the stamps of an object's versions.
func stampsOf(m *arena.Memory, object uint64) []uint64 {
	var l []uint64
	for _, v := range vcas.Versions(m, object) {
		l = append(l, v.Stamp)
	}
	return l
}

func needOf(floor uint64, stamps ...uint64) api.Need {
	return api.Need{Floor: floor, Stamps: stamps}
}

// keyOf is the key whose mixed key has these digits, and then noughts.
func keyOf(t *testing.T, digits ...int) uint64 {
	t.Helper()
	h, ok := mix.Join(append(digits, make([]int, api.Levels-len(digits))...))
	if !ok {
		t.Fatal("no digits:", digits)
	}
	return mix.Back(h)
}

// do does procs to their ends, one behind the other.
func do(t *testing.T, m *arena.Memory, procs ...step.Proc) {
	t.Helper()
	for _, p := range procs {
		if !step.Alone(m.View(9), p, 100000) {
			t.Fatalf("%T is not done", p)
		}
	}
}

func put(key, value uint64) step.Proc { return trie.NewPut(tree, key, value) }
func remove(key uint64) step.Proc     { return trie.NewRemove(tree, key) }
func take() step.Proc                 { return camera.NewTake(clock, 1000) }
func shoot() *announce.Snapshot       { return announce.NewSnapshot(slots) }

// told is what a proc tells.
type told struct {
	Count, Head uint64
}

func tellsOf(p step.Proc) told {
	switch q := p.(type) {
	case *cut.Cut:
		return told{q.Count(), q.Head()}
	case *cut.Collect:
		return told{Count: q.Count()}
	case *spoken:
		return q.told
	}
	return told{}
}

// made is the accesses of a memory's trace behind the first so many.
func made(m *arena.Memory, from int) string {
	var l []string
	for _, a := range m.Trace()[from:] {
		switch a.Kind {
		case api.Load:
			l = append(l, fmt.Sprintf("load %d:%d", a.Addr, a.Got))
		case api.Store:
			l = append(l, fmt.Sprintf("store %d:%d", a.Addr, a.A))
		default:
			l = append(l, fmt.Sprintf("%+v", a))
		}
	}
	return strings.Join(l, ", ")
}

// check lets a proc go to its end, and on, by these accesses, one a step; it tells nothing ahead of its end, and the same from then on.
func check(t *testing.T, m *arena.Memory, p step.Proc, want told, accesses string) {
	t.Helper()
	from, count := m.Made(), strings.Count(accesses, ",")+1
	for i := range count + 3 {
		if i < count && tellsOf(p) != (told{}) {
			t.Errorf("ahead of the step %d it tells %+v", i, tellsOf(p))
		}
		if done := p.Step(m.View(0)); done != (i >= count-1) {
			t.Errorf("step %d: done %t", i, done)
		}
		if n := m.Made() - from; n != min(i+1, count) {
			t.Errorf("step %d: %d accesses", i, n)
		}
		if i >= count-1 && tellsOf(p) != want {
			t.Errorf("behind the step %d it tells %+v, not %+v", i, tellsOf(p), want)
		}
	}
	if got := made(m, from); got != accesses {
		t.Errorf("accesses: %s\nnot: %s", got, accesses)
	}
}

// The chapter's example 1.
func TestExampleOfARow(t *testing.T) {
	for _, c := range []struct {
		need api.Need
		want []uint64
	}{
		{needOf(5), []uint64{5}},
		{needOf(5, 3), []uint64{5, 3}},
		{needOf(4), []uint64{5, 3}},
		{needOf(6, 2), []uint64{5, 1}},
	} {
		m := newRow(t, 5, 3, 3, 1)
		p := cut.NewCut(0, 1, c.need)
		do(t, m, p)
		if got := stampsOf(m, 1); !slices.Equal(got, c.want) || tellsOf(p) != (told{uint64(4 - len(c.want)), 50}) {
			t.Errorf("%+v: %d stay, not %d; it tells %+v", c.need, got, c.want, tellsOf(p))
		}
	}
	// Of the two 3 it is the newer one that stays: the older one was of no use at any stamp.
	m := newRow(t, 5, 3, 3, 1)
	newer := m.Peek(m.Peek(1) + 2)
	do(t, m, cut.NewCut(0, 1, needOf(5, 3)))
	if got := m.Peek(m.Peek(1) + 2); got != newer {
		t.Errorf("%d stays, not %d", got, newer)
	}
}

// The chapter's example 2.
func TestExampleOfNeeded(t *testing.T) {
	if cut.Needed(needOf(5), 3, 5) || !cut.Needed(needOf(4), 3, 5) || cut.Needed(needOf(9, 3, 4), 4, 4) {
		t.Error("Needed")
	}
}

// P15.1: a version is needed, just if a needed stamp lies from its own on, below the newer one's.
func TestNeeded(t *testing.T) {
	const most = 7
	for floor := range uint64(most) {
		for mask := range uint64(1 << most) {
			n := api.Need{Floor: floor}
			for t := range uint64(most) {
				// The stamps may be in any order.
				if at := (5*t + mask) % most; mask>>at&1 == 1 {
					n.Stamps = append(n.Stamps, at)
				}
			}
			for stamp := range uint64(most) {
				for newer := range uint64(most + 2) {
					want := false
					for t := stamp; t < newer; t++ {
						want = want || t >= floor || slices.Contains(n.Stamps, t)
					}
					if got := cut.Needed(n, stamp, newer); got != want {
						t.Fatalf("%+v, %d, %d: %t", n, stamp, newer, got)
					}
				}
			}
		}
	}
}

// P15.1: at the ends of all numbers.
func TestNeededAtTheEnds(t *testing.T) {
	for _, c := range []struct {
		need         api.Need
		stamp, newer uint64
		want         bool
	}{
		{needOf(greatest), greatest, greatest, false},
		{needOf(greatest), 0, greatest, false},
		{needOf(greatest - 1), 0, greatest, true},
		{needOf(0), greatest - 1, greatest, true},
		{needOf(0), greatest, greatest, false},
		{needOf(0), greatest, 0, false},
		{needOf(greatest, greatest), greatest, greatest, false},
		{needOf(greatest, greatest-1), greatest - 1, greatest, true},
		{needOf(greatest, 8, 3, 8), 3, 4, true},
		{needOf(greatest, 8, 3, 8), 4, 8, false},
		{api.Need{}, 0, 0, false},
	} {
		if got := cut.Needed(c.need, c.stamp, c.newer); got != c.want {
			t.Errorf("%+v, %d, %d: %t", c.need, c.stamp, c.newer, got)
		}
	}
}

// P15.2: the accesses of a Cut. The versions of newRow lie at 2, 5, 8, .., the oldest first.
func TestCutSteps(t *testing.T) {
	check(t, newRow(t), cut.NewCut(0, 1, needOf(1)), told{}, "load 1:0")
	check(t, newRow(t, 4), cut.NewCut(0, 1, needOf(9)), told{0, 40}, "load 1:2, load 3:4, load 2:40, load 4:0")
	// One goes, and none is left: the row ends ahead of it.
	check(t, newRow(t, 4, 1), cut.NewCut(0, 1, needOf(9)), told{1, 40},
		"load 1:5, load 6:4, load 5:40, load 7:2, load 3:1, load 4:0, store 7:0")
	// It stays: nothing is stored.
	check(t, newRow(t, 4, 1), cut.NewCut(0, 1, needOf(3)), told{0, 40},
		"load 1:5, load 6:4, load 5:40, load 7:2, load 3:1, load 4:0")
	// Two go in between: one Store; then on behind the one that stays.
	check(t, newRow(t, 6, 5, 4, 3, 2), cut.NewCut(0, 1, needOf(9, 3)), told{3, 60},
		"load 1:14, load 15:6, load 14:60, load 16:11, load 12:5, load 13:8, load 9:4, load 10:5, load 6:3, store 16:5, "+
			"load 7:2, load 3:2, load 4:0, store 7:0")
}

// P15.2: a newest version whose stamp was not told counts as newer than all stamps.
func TestCutOfAHeadWithoutAStamp(t *testing.T) {
	check(t, newRow(t, 0, 3, 1), cut.NewCut(0, 1, needOf(7)), told{1, 0},
		"load 1:8, load 9:0, load 8:0, load 10:5, load 6:3, load 7:2, load 3:1, load 4:0, store 7:0")
	m := newRow(t, 0, 3, 1)
	do(t, m, cut.NewCut(0, 1, needOf(greatest-1)))
	if got := stampsOf(m, 1); !slices.Equal(got, []uint64{0, 3}) {
		t.Error(got)
	}
	m = newRow(t, 0, 3, 1)
	do(t, m, cut.NewCut(0, 1, needOf(greatest)))
	if got := stampsOf(m, 1); !slices.Equal(got, []uint64{0}) {
		t.Error(got)
	}
}

// P15.2: the camera plays no part.
func TestCutAsksNoCamera(t *testing.T) {
	for _, camera := range []uint64{0, 1, 3, greatest} {
		check(t, newRow(t, 4, 1), cut.NewCut(camera, 1, needOf(9)), told{1, 40},
			"load 1:5, load 6:4, load 5:40, load 7:2, load 3:1, load 4:0, store 7:0")
	}
}

// P15.4: At of each needed stamp tells the same behind a Cut, and those versions stay, just, that the chapter calls needed, and the newest one (P15.6).
func TestWhatIsNeededStays(t *testing.T) {
	gone := map[int]int{}
	for seed := range int64(3000) {
		r := rand.New(rand.NewSource(seed))
		var stamps []uint64
		for range r.Intn(9) {
			stamps = append(stamps, uint64(1+r.Intn(8)))
		}
		slices.Sort(stamps)
		slices.Reverse(stamps)
		if len(stamps) > 0 && r.Intn(3) == 0 {
			stamps[0] = 0
		}
		n := api.Need{Floor: uint64(1 + r.Intn(10))}
		for range r.Intn(4) {
			n.Stamps = append(n.Stamps, uint64(1+r.Intn(8)))
		}
		m := newRow(t, stamps...)
		camera := m.View(9).Alloc([]uint64{9})
		ahead := m.Fork()
		p := cut.NewCut(camera, 1, n)
		do(t, m, p)

		var want []uint64
		newer := uint64(greatest)
		for i, s := range stamps {
			if i == 0 || cut.Needed(n, s, newer) {
				want = append(want, s)
			}
			if newer = s; s == 0 {
				newer = greatest
			}
		}
		if got := stampsOf(m, 1); !slices.Equal(got, want) {
			t.Fatalf("of %d, by %+v, %d stay, not %d", stamps, n, got, want)
		}
		if p.Count() != uint64(len(stamps)-len(want)) || p.Head() != headOf(stamps) {
			t.Fatalf("of %d, by %+v, it tells %+v", stamps, n, tellsOf(p))
		}
		gone[int(p.Count())]++
		for stamp := range uint64(9) {
			if stamp < n.Floor && !slices.Contains(n.Stamps, stamp) {
				continue
			}
			a, b := vcas.NewAt(camera, 1, stamp), vcas.NewAt(camera, 1, stamp)
			do(t, ahead.Fork(), a)
			do(t, m.Fork(), b)
			if a.Value() != b.Value() {
				t.Fatalf("of %d, by %+v, the value at %d becomes %d, not %d", stamps, n, stamp, b.Value(), a.Value())
			}
		}
	}
	if gone[0] < 200 || gone[1] < 200 || gone[3] < 100 {
		t.Error("too little has come up:", gone)
	}
}

// headOf is the newest value of newRow.
func headOf(stamps []uint64) uint64 {
	if len(stamps) == 0 {
		return 0
	}
	return 10 * stamps[0]
}

// P15.2: a Collect of an empty trie scans, and looks at all objects of the root.
func TestCollectOfAnEmptyTrie(t *testing.T) {
	accesses := []string{"load 1:1", "load 66:0", "load 67:0"}
	for i := range uint64(64) {
		accesses = append(accesses, fmt.Sprintf("load %d:0", root+i))
	}
	check(t, newTrie(t), cut.NewCollect(tree, slots), told{}, strings.Join(accesses, ", "))
}

// P15.2: a Collect of one key with three values: the digit of 7 at the level 0 is 4. Behind two free slots the leaf lies at 68, its version at 70; then 73, 75; 78, 80.
func TestCollectOfOneKey(t *testing.T) {
	m := newTrie(t)
	do(t, m, put(7, 1), put(7, 2), take(), put(7, 3))
	accesses := []string{"load 1:2", "load 66:0", "load 67:0"}
	for i := range uint64(64) {
		if i != 4 {
			accesses = append(accesses, fmt.Sprintf("load %d:0", root+i))
			continue
		}
		accesses = append(accesses, "load 6:80, load 81:2, load 80:157, load 82:75, load 76:1, load 77:70, load 71:1, load 72:0, store 82:0")
	}
	check(t, m, cut.NewCollect(tree, slots), told{Count: 2}, strings.Join(accesses, ", "))
	if n := cut.Kept(m, tree); n != 1 {
		t.Error("kept:", n)
	}
}

// P15.2, P15.4: what an announced handle needs stays; when it is let go, the next Collect takes it out.
func TestCollectByHandles(t *testing.T) {
	m := newTrie(t)
	a, b := shoot(), shoot()
	do(t, m, put(7, 1), a, put(7, 2), put(7, 3), b, put(7, 4), put(8, 1), put(8, 2))
	object := uint64(root + mix.Digit(mix.Mix(7), 0))
	c := cut.NewCollect(tree, slots)
	do(t, m, c)
	if got := stampsOf(m, object); !slices.Equal(got, []uint64{3, 2, 1}) || c.Count() != 2 {
		t.Error(got, c.Count())
	}
	do(t, m, announce.NewRelease(slots, a.Handle()))
	c = cut.NewCollect(tree, slots)
	do(t, m, c)
	if got := stampsOf(m, object); !slices.Equal(got, []uint64{3, 2}) || c.Count() != 1 {
		t.Error(got, c.Count())
	}
	do(t, m, announce.NewRelease(slots, b.Handle()))
	c = cut.NewCollect(tree, slots)
	do(t, m, c)
	if got := stampsOf(m, object); !slices.Equal(got, []uint64{3}) || c.Count() != 1 {
		t.Error(got, c.Count())
	}
	c = cut.NewCollect(tree, slots)
	do(t, m, c)
	if c.Count() != 0 {
		t.Error("a Collect behind another one takes out", c.Count())
	}
}

// P15.2: a branch's objects come ahead of the next object of the branch that it lies in.
func TestCollectGoesDown(t *testing.T) {
	m := newTrie(t)
	do(t, m, put(keyOf(t, 1, 2), 1), put(keyOf(t, 1, 3), 2), put(keyOf(t, 5), 3))
	from := m.Made()
	do(t, m, cut.NewCollect(tree, slots))
	branch := m.Peek(m.Peek(root+1)) / 2
	want := []uint64{root, root + 1}
	for i := range uint64(64) {
		want = append(want, branch+i)
	}
	for i := uint64(2); i < 64; i++ {
		want = append(want, root+i)
	}
	var got []uint64
	for _, a := range m.Trace()[from:] {
		if slices.Contains(want, a.Addr) {
			got = append(got, a.Addr)
		}
	}
	if !slices.Equal(got, want) {
		t.Errorf("objects %d, not %d", got, want)
	}
}

// P15.2: at most Levels branches deep, the root being one. (Deeper ones do not come up.)
func TestCollectGoesNotTooDeep(t *testing.T) {
	m := newTrie(t)
	branches := []uint64{root}
	for len(branches) < api.Levels+2 {
		branches = append(branches, layBranch(m, branches[len(branches)-1]))
	}
	for _, branch := range branches {
		lay(m, branch+9, 5, 1)
		lay(m, branch+9, 7, 1)
	}
	c := cut.NewCollect(tree, slots)
	from := m.Made()
	do(t, m, c)
	if c.Count() != api.Levels {
		t.Error("count", c.Count())
	}
	for i, branch := range branches {
		want := 1
		if i >= api.Levels {
			want = 2
		}
		if got := len(vcas.Versions(m, branch+9)); got != want {
			t.Errorf("in the branch %d there are %d versions", i, got)
		}
		looked := slices.ContainsFunc(m.Trace()[from:], func(a api.Access) bool { return a.Addr == branch })
		if looked != (i < api.Levels) {
			t.Errorf("the branch %d: looked at %t", i, looked)
		}
	}
}

// P15.2: a branch that the newest value does not lead to any more is not gone into: the newest is a leaf, or nothing.
func TestCollectGoesByTheNewest(t *testing.T) {
	m := newTrie(t)
	branch := layBranch(m, root+3)
	lay(m, branch, 5, 1)
	lay(m, branch, 7, 1)
	lay(m, root+3, 9, 1)
	c := cut.NewCollect(tree, slots)
	do(t, m, c)
	if c.Count() != 1 || len(vcas.Versions(m, branch)) != 2 {
		t.Error(c.Count(), vcas.Versions(m, branch))
	}
}

// checkKept checks P15.3: Kept makes no access.
func checkKept(t *testing.T, m *arena.Memory, tree api.Tree, want int) {
	t.Helper()
	from := m.Made()
	if got := cut.Kept(m, tree); got != want {
		t.Errorf("kept %d, not %d", got, want)
	}
	if m.Made() != from {
		t.Error("Kept made accesses")
	}
}

// P15.3.
func TestKept(t *testing.T) {
	m := newTrie(t)
	checkKept(t, m, tree, 0)
	a, b := keyOf(t, 1, 2), keyOf(t, 1, 3)
	do(t, m, put(a, 1))
	checkKept(t, m, tree, 1)
	do(t, m, put(a, 2), put(a, 3), put(keyOf(t, 63), 1))
	checkKept(t, m, tree, 3)
	// The branch makes it four; below it each has one.
	do(t, m, put(b, 1))
	checkKept(t, m, tree, 4)
	for i := range uint64(5) {
		do(t, m, put(b, 2+i))
	}
	checkKept(t, m, tree, 6)
	do(t, m, remove(b))
	checkKept(t, m, tree, 7)
	do(t, m, cut.NewCollect(tree, slots))
	checkKept(t, m, tree, 1)
	checkKept(t, m, api.Tree{Camera: clock, Root: m.Peek(m.Peek(root+1)) / 2}, 1)
}

// P15.3: what is not come to by the newest values plays no part; versions of the root's last object do.
func TestKeptByTheNewest(t *testing.T) {
	m := newTrie(t)
	branch := layBranch(m, root+3)
	for i := range uint64(6) {
		lay(m, branch, 2*i+1, 1)
	}
	checkKept(t, m, tree, 6)
	lay(m, root+3, 9, 1)
	checkKept(t, m, tree, 2)
	for range 3 {
		lay(m, root+63, 0, 1)
	}
	checkKept(t, m, tree, 3)
	// The cell behind the root is none of its objects.
	for range 9 {
		lay(m, root+64, 0, 1)
	}
	checkKept(t, m, tree, 3)
}

// P1, P15.3: branches that lie in themselves, versions that are their own older ones, addresses that are no cell's.
func TestKeptOfWhatIsNoTrie(t *testing.T) {
	m := newTrie(t)
	lay(m, root+5, 2*root, 1)
	lay(m, root+6, 2*root, 1)
	lay(m, root+7, greatest-1, 1)
	checkKept(t, m, tree, 1)
	version := lay(m, root+8, 1, 1)
	m.View(9).Store(version+2, version)
	checkKept(t, m, tree, m.Cells())
	m.View(9).Store(root+8, uint64(m.Cells())-1)
	checkKept(t, m, tree, 1)
	for _, at := range []uint64{uint64(m.Cells()), greatest, greatest - 10} {
		cut.Kept(m, api.Tree{Root: at})
	}
	checkKept(t, nil, tree, 0)
}

// P1: nil procs, and steps on a nil View.
func TestNil(t *testing.T) {
	m := newTrie(t)
	var c *cut.Cut
	var d *cut.Collect
	for _, p := range []step.Proc{c, d} {
		if !p.Step(m.View(0)) || !p.Step(nil) || tellsOf(p) != (told{}) {
			t.Errorf("%T tells %+v", p, tellsOf(p))
		}
	}
	do(t, m, put(7, 1), put(7, 2))
	from := m.Made()
	c, d = cut.NewCut(clock, root+4, needOf(1)), cut.NewCollect(tree, slots)
	if !step.Alone(nil, c, 1) || step.Alone(nil, d, 66) || !step.Alone(nil, d, 1) {
		t.Error("steps on a nil view")
	}
	if m.Made() != from || tellsOf(c) != (told{}) || tellsOf(d) != (told{}) {
		t.Error(tellsOf(c), tellsOf(d))
	}
	// One that has begun goes on: it reads noughts from then on.
	c = cut.NewCut(clock, root+4, needOf(1))
	step.Alone(m.View(0), c, 1)
	if !step.Alone(nil, c, 3) || c.Count() != 0 || c.Head() != 0 {
		t.Error(tellsOf(c))
	}
}

// P1: slots and trees that are none.
func TestWrongPlaces(t *testing.T) {
	m := newTrie(t)
	for _, count := range []int{-1, 0, math.MinInt} {
		p := cut.NewCollect(tree, api.Slots{Camera: clock, First: first, Count: count})
		if !step.Alone(m.View(0), p, 65) {
			t.Error("not done, with a Count of", count)
		}
	}
	p := cut.NewCollect(tree, api.Slots{Camera: clock, First: first, Count: math.MaxInt})
	if step.Alone(m.View(0), p, 1+api.MaxSlots+63) || !step.Alone(m.View(0), p, 1) {
		t.Error("a Count above MaxSlots is not as MaxSlots")
	}
	for _, at := range []uint64{0, 3990, 4000, greatest - 3} {
		do(t, m, cut.NewCollect(api.Tree{Camera: at, Root: at}, api.Slots{Camera: at, First: at, Count: 5}))
		do(t, m, cut.NewCut(at, at, needOf(3, 1)))
	}
}

// P1: on whatever cells, each step ends, and makes one access at most.
func TestWildMemory(t *testing.T) {
	for seed := range int64(300) {
		r := rand.New(rand.NewSource(seed))
		m, _ := arena.New(128, false)
		for addr := range uint64(128) {
			if r.Intn(3) > 0 {
				m.View(9).Store(addr, uint64(r.Intn(140)))
			}
		}
		at := func() uint64 { return uint64(r.Intn(130)) }
		for _, p := range []step.Proc{
			cut.NewCut(at(), at(), needOf(at(), at(), at())),
			cut.NewCollect(api.Tree{Camera: at(), Root: at()}, api.Slots{Camera: at(), First: at(), Count: r.Intn(5)}),
		} {
			for range 500 {
				from := m.Made()
				done := p.Step(m.View(0))
				if n := m.Made() - from; n > 1 {
					t.Fatal(n, "accesses")
				}
				if !done && tellsOf(p) != (told{}) {
					t.Fatal("ahead of its end it tells", tellsOf(p))
				}
			}
		}
		cut.Kept(m, api.Tree{Root: at()})
	}
}

// P3: the list of a Need stays, and a Cut keeps one of its own.
func TestListsStay(t *testing.T) {
	room := []uint64{4, 3, 9, 9}
	n := api.Need{Floor: 6, Stamps: room[:2]}
	m := newRow(t, 5, 3, 1)
	p := cut.NewCut(0, 1, n)
	cut.Needed(n, 1, 3)
	step.Alone(m.View(0), p, 2)
	if !slices.Equal(room, []uint64{4, 3, 9, 9}) {
		t.Error(room)
	}
	room[0], room[1] = 1, 1
	do(t, m, p)
	if got := stampsOf(m, 1); !slices.Equal(got, []uint64{5, 3}) {
		t.Error("what became of the list let it keep", got)
	}
	if !slices.Equal(room, []uint64{1, 1, 9, 9}) {
		t.Error(room)
	}
}
