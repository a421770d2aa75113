package trie_test

import (
	"fmt"
	"math"
	"reflect"
	"strings"
	"testing"

	"shutter/api"
	"shutter/arena"
	"shutter/mix"
	"shutter/step"
	"shutter/trie"
)

const greatest = math.MaxUint64

// Where the tree of most tests lies, and the first cell behind it.
const (
	clock = 1
	root  = 2
	free  = 66
)

var tree = api.Tree{Camera: clock, Root: root}

// newMemory has so many cells left, none of them used.
func newMemory(t *testing.T, left int) *arena.Memory {
	t.Helper()
	m, errno := arena.New(max(left+1, api.MinCells), false)
	if errno != api.OK {
		t.Fatal(errno)
	}
	if more := m.Left() - left; more > 0 {
		m.View(9).Alloc(make([]uint64, more))
	}
	return m
}

// newTrie is a memory with an empty trie, and 2000 cells left behind it.
func newTrie(t *testing.T) *arena.Memory {
	t.Helper()
	m, errno := arena.New(free+2000, false)
	if errno != api.OK {
		t.Fatal(errno)
	}
	if got, errno := trie.Make(m.View(9)); got != tree || errno != api.OK {
		t.Fatal(got, errno)
	}
	return m
}

// fill lets a memory have so many cells left.
func fill(m *arena.Memory, left int) {
	m.View(9).Alloc(make([]uint64, m.Left()-left))
}

// keyOf is the key whose mixed key has these digits, and then noughts.
func keyOf(t *testing.T, digits ...int) uint64 {
	t.Helper()
	h, ok := mix.Join(append(digits, make([]int, api.Levels-len(digits))...))
	if !ok {
		t.Fatal("no digits:", digits)
	}
	return mix.Back(h)
}

// alone does a proc to its end.
func alone(t *testing.T, m *arena.Memory, p step.Proc) {
	t.Helper()
	if !step.Alone(m.View(9), p, 1000) {
		t.Fatalf("%T is not done", p)
	}
}

func put(t *testing.T, m *arena.Memory, key, value uint64) {
	t.Helper()
	alone(t, m, trie.NewPut(tree, key, value))
}

// made is the accesses of a memory's trace behind the first so many, as a text; of a record of 64 cells those that do not hold 0.
func made(m *arena.Memory, from int) string {
	var l []string
	for _, a := range m.Trace()[from:] {
		switch {
		case a.Kind == api.Load:
			l = append(l, fmt.Sprintf("Load %d: %d", a.Addr, a.Got))
		case a.Kind == api.Cas:
			l = append(l, fmt.Sprintf("Cas %d %d %d: %t", a.Addr, a.A, a.B, a.Ok))
		case a.Kind == api.Alloc && len(a.Values) == api.Fan:
			text := "Alloc of 64"
			for digit, value := range a.Values {
				if value != 0 {
					text += fmt.Sprintf(" %d=%d", digit, value)
				}
			}
			l = append(l, text+fmt.Sprintf(": %d", a.Addr))
		case a.Kind == api.Alloc:
			l = append(l, fmt.Sprintf("Alloc %d: %d", a.Values, a.Addr))
		default:
			l = append(l, fmt.Sprintf("%+v", a))
		}
	}
	return strings.Join(l, ", ")
}

// teller is a proc of this package.
type teller interface {
	step.Proc
	Answer() api.Answer
}

// check lets a proc go to its end, and on: its accesses are those, one a step; it tells nothing ahead of its end, and the same from then on.
func check(t *testing.T, m *arena.Memory, p teller, want api.Answer, accesses string) {
	t.Helper()
	from := m.Made()
	count := strings.Count(accesses, ", ") + 1
	for i := range count + 3 {
		if i < count && !reflect.DeepEqual(p.Answer(), api.Answer{}) {
			t.Errorf("ahead of the step %d it tells %+v", i, p.Answer())
		}
		if done := p.Step(m.View(0)); done != (i >= count-1) {
			t.Errorf("step %d: done %t", i, done)
		}
		if n := m.Made() - from; n != min(i+1, count) {
			t.Errorf("step %d: %d accesses", i, n)
		}
	}
	if got := p.Answer(); !reflect.DeepEqual(got, want) {
		t.Errorf("it tells %+v, not %+v", got, want)
	}
	if got := made(m, from); got != accesses {
		t.Errorf("accesses: %s\nnot: %s", got, accesses)
	}
}

func found(value uint64) api.Answer { return api.Answer{Found: true, Value: value} }

func swapped(value uint64) api.Answer {
	return api.Answer{Found: true, Value: value, Done: true}
}

func failed(errno api.Errno) api.Answer { return api.Answer{Errno: errno} }

// checkPairs checks what Pairs tells, and that it makes no access.
func checkPairs(t *testing.T, m *arena.Memory, want ...api.Pair) {
	t.Helper()
	from := m.Made()
	got := trie.Pairs(m, tree)
	if len(got) != len(want) || len(want) > 0 && !reflect.DeepEqual(got, want) {
		t.Errorf("pairs %v, not %v", got, want)
	}
	if m.Made() != from {
		t.Error("Pairs made an access")
	}
}

// The chapter's example 1. The digit of 7 at the level 0 is 4.
func TestExampleOfOneKey(t *testing.T) {
	m := newTrie(t)
	check(t, m, trie.NewFind(tree, 7), api.Answer{}, "Load 6: 0")
	check(t, m, trie.NewPut(tree, 7, 1), api.Answer{},
		"Load 6: 0, Alloc [7 1]: 66, Load 6: 0, Alloc [133 0 0]: 68, Cas 6 0 68: true, Load 69: 0, Load 1: 1, Cas 69 0 1: true")
	check(t, m, trie.NewFind(tree, 7), found(1), "Load 6: 68, Load 69: 1, Load 68: 133, Load 66: 7, Load 67: 1")
	checkPairs(t, m, api.Pair{Key: 7, Value: 1})
}

// The chapter's example 2: from the root on, branches at the levels 1, 2, 3, of which the last has both.
func TestExampleOfTwoKeys(t *testing.T) {
	m := newTrie(t)
	a, b := keyOf(t, 1, 2, 3, 4), keyOf(t, 1, 2, 3, 5)
	put(t, m, a, 10)
	// The leaf of a lies at 66, its version at 68.
	check(t, m, trie.NewPut(tree, b, 20), api.Answer{},
		"Load 3: 68, Load 69: 1, Load 68: 133, "+fmt.Sprintf("Load 66: %d, Alloc [%d 20]: 71, ", a, b)+
			"Alloc [133 1 0]: 73, Alloc [143 1 0]: 76, Alloc of 64 4=73 5=76: 79, Alloc [158 1 0]: 143, Alloc of 64 3=143: 146, Alloc [292 1 0]: 210, Alloc of 64 2=210: 213, "+
			"Load 3: 68, Load 69: 1, Load 68: 133, Alloc [426 0 68]: 277, Cas 3 68 277: true, Load 278: 0, Load 1: 1, Cas 278 0 1: true")
	way := "Load 3: 277, Load 278: 1, Load 277: 426, Load 215: 210, Load 211: 1, Load 210: 292, Load 149: 143, Load 144: 1, Load 143: 158, "
	check(t, m, trie.NewFind(tree, a), found(10), way+"Load 83: 73, Load 74: 1, Load 73: 133, "+fmt.Sprintf("Load 66: %d, Load 67: 10", a))
	check(t, m, trie.NewFind(tree, b), found(20), way+"Load 84: 76, Load 77: 1, Load 76: 143, "+fmt.Sprintf("Load 71: %d, Load 72: 20", b))
	check(t, m, trie.NewFind(tree, keyOf(t, 1, 2, 3, 6)), api.Answer{}, way+"Load 85: 0")
	if l := trie.Pairs(m, tree); len(l) != 2 {
		t.Error(l)
	}
}

// P11.1: an empty trie, where every way ends at Nothing.
func TestEmptyTrie(t *testing.T) {
	m := newTrie(t)
	for digit, key := range map[int]uint64{0: keyOf(t, 0, 5), 17: keyOf(t, 17, 1, 1), 63: keyOf(t, 63, 63)} {
		load := fmt.Sprintf("Load %d: 0", root+digit)
		check(t, m, trie.NewFind(tree, key), api.Answer{}, load)
		check(t, m, trie.NewRemove(tree, key), api.Answer{}, load)
		check(t, m, trie.NewSwap(tree, key, 0, 1), api.Answer{}, load)
		check(t, m, trie.NewSwap(tree, key, 0, 0), api.Answer{}, load)
	}
	checkPairs(t, m)
}

// P11.1: ways that end at a Leaf of the key. The trie has 7 with the value 1: the leaf at 66, the version at 68.
func TestLeafOfTheKey(t *testing.T) {
	const way = "Load 6: 68, Load 69: 1, Load 68: 133, Load 66: 7, Load 67: 1"
	const read = ", Load 6: 68, Load 69: 1, Load 68: 133"
	one := func() *arena.Memory {
		m := newTrie(t)
		put(t, m, 7, 1)
		return m
	}
	m := one()
	check(t, m, trie.NewFind(tree, 7), found(1), way)
	check(t, m, trie.NewSwap(tree, 7, 2, 5), found(1), way)
	check(t, m, trie.NewSwap(tree, 7, 2, 2), found(1), way)
	check(t, m, trie.NewSwap(tree, 7, 2, 1), found(1), way)
	checkPairs(t, m, api.Pair{Key: 7, Value: 1})
	check(t, m, trie.NewPut(tree, 7, 2), found(1),
		way+", Alloc [7 2]: 71"+read+", Alloc [143 0 68]: 73, Cas 6 68 73: true, Load 74: 0, Load 1: 1, Cas 74 0 1: true")
	checkPairs(t, m, api.Pair{Key: 7, Value: 2})
	m = one()
	check(t, m, trie.NewRemove(tree, 7), found(1),
		way+read+", Alloc [0 0 68]: 71, Cas 6 68 71: true, Load 72: 0, Load 1: 1, Cas 72 0 1: true")
	checkPairs(t, m)
	check(t, m, trie.NewFind(tree, 7), api.Answer{}, "Load 6: 71, Load 72: 1, Load 71: 0")
	check(t, m, trie.NewRemove(tree, 7), api.Answer{}, "Load 6: 71, Load 72: 1, Load 71: 0")
	m = one()
	check(t, m, trie.NewSwap(tree, 7, 1, 5), swapped(1),
		way+", Alloc [7 5]: 71"+read+", Alloc [143 0 68]: 73, Cas 6 68 73: true, Load 74: 0, Load 1: 1, Cas 74 0 1: true")
	checkPairs(t, m, api.Pair{Key: 7, Value: 5})
}

// P11.1: a Swap whose old is its now puts a new leaf there, as any other.
func TestSwapOfLikeValues(t *testing.T) {
	m := newTrie(t)
	put(t, m, 7, 1)
	check(t, m, trie.NewSwap(tree, 7, 1, 1), swapped(1),
		"Load 6: 68, Load 69: 1, Load 68: 133, Load 66: 7, Load 67: 1, Alloc [7 1]: 71, Load 6: 68, Load 69: 1, Load 68: 133, Alloc [143 0 68]: 73, Cas 6 68 73: true, Load 74: 0, Load 1: 1, Cas 74 0 1: true")
	checkPairs(t, m, api.Pair{Key: 7, Value: 1})
}

// P11.1: values and keys at the edges are as any others; 0 is one that can be there.
func TestEdgesOfKeysAndValues(t *testing.T) {
	m := newTrie(t)
	for _, key := range []uint64{0, 1, greatest, 1 << 63} {
		ahead := api.Answer{}
		for _, value := range []uint64{0, 0, greatest, 1, 0} {
			p := trie.NewPut(tree, key, value)
			alone(t, m, p)
			f := trie.NewFind(tree, key)
			alone(t, m, f)
			if !reflect.DeepEqual(p.Answer(), ahead) || !reflect.DeepEqual(f.Answer(), found(value)) {
				t.Errorf("key %d, value %d: %+v, %+v", key, value, p.Answer(), f.Answer())
			}
			ahead = found(value)
		}
		s := trie.NewSwap(tree, key, 0, greatest)
		alone(t, m, s)
		if !reflect.DeepEqual(s.Answer(), swapped(0)) {
			t.Errorf("key %d: %+v", key, s.Answer())
		}
	}
	checkPairs(t, m, api.Pair{Value: greatest}, api.Pair{Key: 1, Value: greatest}, api.Pair{Key: 1 << 63, Value: greatest}, api.Pair{Key: greatest, Value: greatest})
}

// P11.1: ways that end at a Leaf of another key: but for a Put it is not there.
func TestLeafOfAnotherKey(t *testing.T) {
	m := newTrie(t)
	a, b := keyOf(t, 4, 1), keyOf(t, 4, 2)
	put(t, m, a, 1)
	way := fmt.Sprintf("Load 6: 68, Load 69: 1, Load 68: 133, Load 66: %d", a)
	check(t, m, trie.NewFind(tree, b), api.Answer{}, way)
	check(t, m, trie.NewRemove(tree, b), api.Answer{}, way)
	check(t, m, trie.NewSwap(tree, b, 1, 2), api.Answer{}, way)
	check(t, m, trie.NewSwap(tree, b, 0, 2), api.Answer{}, way)
	checkPairs(t, m, api.Pair{Key: a, Value: 1})
}

// P11.1: two keys whose ways part at each level from 1 on; each level more takes two accesses and 67 cells more.
func TestKeysThatPart(t *testing.T) {
	for level := 1; level < api.Levels; level++ {
		digits := []int{9, 8, 7, 6, 5, 4, 3, 2, 1, 7, 5}
		a := keyOf(t, digits...)
		digits[level]++
		b := keyOf(t, digits...)
		m := newTrie(t)
		put(t, m, a, 1)
		from, left := m.Made(), m.Left()
		p := trie.NewPut(tree, b, 2)
		alone(t, m, p)
		accesses, cells := m.Made()-from, left-m.Left()
		if !reflect.DeepEqual(p.Answer(), api.Answer{}) || accesses != 4+1+3+2*(level-1)+8 || cells != 2+6+64+67*(level-1)+3 {
			t.Errorf("level %d: %+v, %d accesses, %d cells", level, p.Answer(), accesses, cells)
		}
		for key, value := range map[uint64]uint64{a: 1, b: 2} {
			f := trie.NewFind(tree, key)
			from = m.Made()
			alone(t, m, f)
			if !reflect.DeepEqual(f.Answer(), found(value)) || m.Made()-from != 3*(level+1)+2 {
				t.Errorf("level %d: %+v, %d accesses", level, f.Answer(), m.Made()-from)
			}
		}
		if l := trie.Pairs(m, tree); len(l) != 2 {
			t.Errorf("level %d: %v", level, l)
		}
	}
}

// P11.1: keys whose ways part at the level 0 need no branch.
func TestKeysThatPartAtOnce(t *testing.T) {
	m := newTrie(t)
	a, b := keyOf(t, 4, 1), keyOf(t, 5, 1)
	put(t, m, a, 1)
	check(t, m, trie.NewPut(tree, b, 2), api.Answer{},
		"Load 7: 0, "+fmt.Sprintf("Alloc [%d 2]: 71, ", b)+"Load 7: 0, Alloc [143 0 0]: 73, Cas 7 0 73: true, Load 74: 0, Load 1: 1, Cas 74 0 1: true")
}

// lay lays a child's word into an object, by a version of the stamp 1, and tells the version's address.
func lay(m *arena.Memory, object, child uint64) uint64 {
	v := m.View(9)
	version := v.Alloc([]uint64{child, 1, 0})
	v.Store(object, version)
	return version
}

// layLeaf lays a leaf into an object, and tells the leaf's address.
func layLeaf(m *arena.Memory, object, key, value uint64) uint64 {
	leaf := m.View(9).Alloc([]uint64{key, value})
	lay(m, object, 2*leaf+1)
	return leaf
}

// layBranch lays an empty branch into an object, and tells the branch's address.
func layBranch(m *arena.Memory, object uint64) uint64 {
	branch := m.View(9).Alloc(make([]uint64, api.Fan))
	lay(m, object, 2*branch)
	return branch
}

// layWay lays branches for a key from the root on, of so many levels more, and tells the key's object in the last of them.
func layWay(m *arena.Memory, key uint64, levels int) uint64 {
	h := mix.Mix(key)
	object := root + uint64(mix.Digit(h, 0))
	for level := 1; level <= levels; level++ {
		object = layBranch(m, object) + uint64(mix.Digit(h, level))
	}
	return object
}

// P11.1: a Branch at the level 10 is gone into as if there were a level 11 with the digit 0.
func TestBranchAtTheLastLevel(t *testing.T) {
	digits := []int{9, 8, 7, 6, 5, 4, 3, 2, 1, 7, 5}
	key := keyOf(t, digits...)
	digits[10] = 6
	beside := keyOf(t, digits...)
	for beyond := 1; beyond <= 2; beyond++ {
		m := newTrie(t)
		object := layWay(m, key, 10+beyond)
		p := trie.NewPut(tree, key, 1)
		alone(t, m, p)
		f := trie.NewFind(tree, key)
		alone(t, m, f)
		if !reflect.DeepEqual(f.Answer(), found(1)) || m.Peek(m.Peek(object))%2 != 1 {
			t.Errorf("%+v, %d", f.Answer(), m.Peek(object))
		}
		from := m.Made()
		alone(t, m, trie.NewRemove(tree, beside))
		if l := m.Trace()[from:]; len(l) != 3*10+1 || l[30].Got != 0 {
			t.Error("beside it:", len(l))
		}
		checkPairs(t, m) // It lies too deep.
	}
}

// P11.1: two ways that never part: ErrKnown in the step in which the leaf was made; the trie is as it was.
func TestKeysThatNeverPart(t *testing.T) {
	a := keyOf(t, 4, 1, 2, 3)
	for _, other := range []uint64{keyOf(t, 5, 1, 2, 3), keyOf(t, 63, 1, 2, 3)} {
		m := newTrie(t)
		leaf := layLeaf(m, root+4, other, 1)
		way := fmt.Sprintf("Load 6: 68, Load 69: 1, Load 68: %d, Load %d: %d", 2*leaf+1, leaf, other)
		check(t, m, trie.NewPut(tree, a, 2), failed(api.ErrKnown), way+fmt.Sprintf(", Alloc [%d 2]: 71", a))
		checkPairs(t, m, api.Pair{Key: other, Value: 1})
	}
	// At the level 10, where a leaf of any other key lies wrong, and beyond it.
	for levels := 10; levels <= 12; levels++ {
		m := newTrie(t)
		object := layWay(m, a, levels)
		layLeaf(m, object, 99, 1)
		p := trie.NewPut(tree, a, 2)
		from := m.Made()
		alone(t, m, p)
		if l := m.Trace()[from:]; !reflect.DeepEqual(p.Answer(), failed(api.ErrKnown)) || len(l) != 3*(levels+1)+2 || l[len(l)-1].Kind != api.Alloc {
			t.Errorf("%d levels: %+v, %d accesses", levels, p.Answer(), len(l))
		}
	}
	// Ways that part again behind the level at which they would have to.
	m := newTrie(t)
	layLeaf(m, root+4, keyOf(t, 5, 1, 2, 4), 1)
	p := trie.NewPut(tree, a, 2)
	alone(t, m, p)
	if !reflect.DeepEqual(p.Answer(), api.Answer{}) {
		t.Errorf("%+v", p.Answer())
	}
}

// P11.1: ErrKnown of a Put that has made its leaf ahead comes in the step in which the other key was read.
func TestKeysThatNeverPartAgain(t *testing.T) {
	a, other := keyOf(t, 4, 1, 2, 3), keyOf(t, 5, 1, 2, 3)
	m := newTrie(t)
	p := trie.NewPut(tree, a, 2)
	p.Step(m.View(0))
	p.Step(m.View(0))
	leaf := layLeaf(m, root+4, other, 1)
	check(t, m, p, failed(api.ErrKnown),
		fmt.Sprintf("Load 6: 70, Load 71: 1, Load 70: %d, Load 6: 70, Load 71: 1, Load 70: %d, Load %d: %d", 2*leaf+1, 2*leaf+1, leaf, other))
}

// until lets a proc take steps till its next access is the Cas of an object from one version to another: so many steps from its begin on.
func until(t *testing.T, m *arena.Memory, p step.Proc, steps int) {
	t.Helper()
	if step.Alone(m.View(0), p, steps) {
		t.Fatal("done too early")
	}
}

// P11.1: a Put whose Cas another one is ahead of: it goes down again from the object where it was, with the leaf that it has made.
func TestPutTooLate(t *testing.T) {
	a, b := keyOf(t, 4, 1), keyOf(t, 4, 2)
	m := newTrie(t)
	p := trie.NewPut(tree, a, 1)
	until(t, m, p, 4) // Its leaf lies at 66, its version at 68.
	put(t, m, a, 2)   // A leaf at 71, a version at 73.
	check(t, m, p, found(2),
		"Cas 6 0 68: false, Load 6: 73, Load 74: 1, "+
			"Load 6: 73, Load 74: 1, Load 73: 143, "+fmt.Sprintf("Load 71: %d, Load 72: 2, ", a)+
			"Load 6: 73, Load 74: 1, Load 73: 143, Alloc [133 0 73]: 76, Cas 6 73 76: true, Load 77: 0, Load 1: 1, Cas 77 0 1: true")
	checkPairs(t, m, api.Pair{Key: a, Value: 1})

	m = newTrie(t)
	p = trie.NewPut(tree, a, 1)
	until(t, m, p, 4)
	put(t, m, b, 2)
	check(t, m, p, api.Answer{},
		"Cas 6 0 68: false, Load 6: 73, Load 74: 1, "+
			"Load 6: 73, Load 74: 1, Load 73: 143, "+fmt.Sprintf("Load 71: %d, ", b)+
			"Alloc [143 1 0]: 76, Alloc [133 1 0]: 79, Alloc of 64 1=79 2=76: 82, "+
			"Load 6: 73, Load 74: 1, Load 73: 143, Alloc [164 0 73]: 146, Cas 6 73 146: true, Load 147: 0, Load 1: 1, Cas 147 0 1: true")
	if l := trie.Pairs(m, tree); len(l) != 2 {
		t.Error(l)
	}
}

// P11.1: a Put that has found the key, and then that it was taken away, tells that it was not there.
func TestPutBehindARemove(t *testing.T) {
	m := newTrie(t)
	put(t, m, 7, 1)
	p := trie.NewPut(tree, 7, 2)
	until(t, m, p, 6) // It has made its leaf, at 71.
	alone(t, m, trie.NewRemove(tree, 7))
	check(t, m, p, api.Answer{},
		"Load 6: 73, Load 74: 1, Load 73: 0, Load 6: 73, Load 74: 1, Load 73: 0, "+
			"Load 6: 73, Load 74: 1, Load 73: 0, Alloc [143 0 73]: 76, Cas 6 73 76: true, Load 77: 0, Load 1: 1, Cas 77 0 1: true")
	checkPairs(t, m, api.Pair{Key: 7, Value: 2})
}

// P11.1: a Put in a branch below the root goes down again from there, not from the root.
func TestPutTooLateBelow(t *testing.T) {
	a, b, c := keyOf(t, 4, 1), keyOf(t, 4, 2), keyOf(t, 4, 2, 1)
	m := newTrie(t)
	put(t, m, keyOf(t, 4, 3), 3)
	put(t, m, a, 1)
	p := trie.NewPut(tree, b, 2)
	until(t, m, p, 3+1+1+1+1) // It has read the objects, made the leaf, read the object again, and made the version.
	put(t, m, c, 9)
	from := m.Made()
	alone(t, m, p)
	object := m.Trace()[from].Addr
	l := m.Trace()[from:]
	if l[0].Kind != api.Cas || l[0].Ok || l[1].Addr != object || l[3].Addr != object || l[3].Kind != api.Load {
		t.Error(made(m, from))
	}
	leaves := 0
	for _, access := range l {
		if access.Addr == root+4 {
			t.Error("it went down from the root again")
		}
		if access.Kind == api.Alloc && len(access.Values) == 2 {
			leaves++
		}
	}
	if pairs := trie.Pairs(m, tree); leaves != 0 || len(pairs) != 4 {
		t.Error(leaves, pairs)
	}
}

// P11.1: a Put goes down again as often as others are ahead, with one leaf.
func TestPutTooLateOften(t *testing.T) {
	m := newTrie(t)
	put(t, m, 7, 100)
	p := trie.NewPut(tree, 7, 1)
	v := m.View(0)
	until(t, m, p, 10) // Its leaf and its version are made; it is at the Cas.
	for i := range uint64(5) {
		put(t, m, 7, 101+i)
		until(t, m, p, 12) // The Cas, 2 accesses; 5 down; 3 and the version.
		if access := m.Trace()[m.Made()-1]; access.Kind != api.Alloc || len(access.Values) != 3 {
			t.Fatal(made(m, m.Made()-12))
		}
	}
	if !step.Alone(v, p, 4) || !reflect.DeepEqual(p.Answer(), found(105)) {
		t.Error(p.Answer())
	}
	leaves := 0
	for _, access := range m.Trace() {
		if access.Kind == api.Alloc && reflect.DeepEqual(access.Values, []uint64{7, 1}) {
			leaves++
		}
	}
	if leaves != 1 {
		t.Error(leaves, "leaves")
	}
	checkPairs(t, m, api.Pair{Key: 7, Value: 1})
}

// P11.1: a Remove whose Cas another one is ahead of.
func TestRemoveTooLate(t *testing.T) {
	const again = "Cas 6 68 71: false, Load 6: 76, Load 77: 1, Load 6: 76, Load 77: 1, Load 76: 149, Load 74: 7, Load 75: 2, "
	m := newTrie(t)
	put(t, m, 7, 1)
	p := trie.NewRemove(tree, 7)
	until(t, m, p, 9) // Its version lies at 71.
	put(t, m, 7, 2)   // A leaf at 74, a version at 76.
	check(t, m, p, found(2),
		again+"Load 6: 76, Load 77: 1, Load 76: 149, Alloc [0 0 76]: 79, Cas 6 76 79: true, Load 80: 0, Load 1: 1, Cas 80 0 1: true")
	checkPairs(t, m)

	m = newTrie(t)
	put(t, m, 7, 1)
	p = trie.NewRemove(tree, 7)
	until(t, m, p, 9)
	alone(t, m, trie.NewRemove(tree, 7)) // A version at 74.
	check(t, m, p, api.Answer{}, "Cas 6 68 71: false, Load 6: 74, Load 75: 1, Load 6: 74, Load 75: 1, Load 74: 0")
}

// P11.1: a Remove whose object has become a branch in between goes down into it.
func TestRemoveBehindAFork(t *testing.T) {
	a, b := keyOf(t, 4, 1), keyOf(t, 4, 2)
	m := newTrie(t)
	put(t, m, a, 1)
	p := trie.NewRemove(tree, a)
	until(t, m, p, 9)
	put(t, m, b, 2)
	alone(t, m, p)
	if !reflect.DeepEqual(p.Answer(), found(1)) {
		t.Error(p.Answer())
	}
	checkPairs(t, m, api.Pair{Key: b, Value: 2})
}

// P11.1: a Swap whose Cas another one is ahead of: it compares again, and has one leaf.
func TestSwapTooLate(t *testing.T) {
	late := func(ahead step.Proc) (*arena.Memory, *trie.Swap) {
		m := newTrie(t)
		put(t, m, 7, 1)
		p := trie.NewSwap(tree, 7, 1, 5)
		until(t, m, p, 10) // Its leaf lies at 71, its version at 73.
		alone(t, m, ahead)
		return m, p
	}
	// A leaf at 76, a version at 78.
	const again = "Cas 6 68 73: false, Load 6: 78, Load 79: 1, Load 6: 78, Load 79: 1, Load 78: 153, Load 76: 7, Load 77: "
	m, p := late(trie.NewPut(tree, 7, 2))
	check(t, m, p, found(2), again+"2")
	checkPairs(t, m, api.Pair{Key: 7, Value: 2})

	m, p = late(trie.NewPut(tree, 7, 1))
	check(t, m, p, swapped(1),
		again+"1, Load 6: 78, Load 79: 1, Load 78: 153, Alloc [143 0 78]: 81, Cas 6 78 81: true, Load 82: 0, Load 1: 1, Cas 82 0 1: true")
	checkPairs(t, m, api.Pair{Key: 7, Value: 5})

	m, p = late(trie.NewRemove(tree, 7)) // A version at 76.
	check(t, m, p, api.Answer{}, "Cas 6 68 73: false, Load 6: 76, Load 77: 1, Load 6: 76, Load 77: 1, Load 76: 0")
	checkPairs(t, m)
}

// P11.1: the object is another one's ahead of the Cas's own reading: it is not done, without a version.
func TestReadTooLate(t *testing.T) {
	m := newTrie(t)
	put(t, m, 7, 1)
	p := trie.NewRemove(tree, 7)
	until(t, m, p, 5)
	put(t, m, 7, 2) // A leaf at 71, a version at 73.
	check(t, m, p, found(2),
		"Load 6: 73, Load 74: 1, Load 73: 143, Load 6: 73, Load 74: 1, Load 73: 143, Load 71: 7, Load 72: 2, "+
			"Load 6: 73, Load 74: 1, Load 73: 143, Alloc [0 0 73]: 76, Cas 6 73 76: true, Load 77: 0, Load 1: 1, Cas 77 0 1: true")
}

// P11.2: Make.
func TestMake(t *testing.T) {
	m := newMemory(t, 200)
	m.View(9).Alloc([]uint64{1, 2, 3})
	from := m.Made()
	got, errno := trie.Make(m.View(3))
	if got != (api.Tree{Camera: 4, Root: 5}) || errno != api.OK || made(m, from) != "Alloc [1]: 4, Alloc of 64: 5" {
		t.Error(got, errno, made(m, from))
	}
	if l := m.Trace(); l[len(l)-1].Thread != 3 {
		t.Error("the thread", l[len(l)-1].Thread)
	}
	second, errno := trie.Make(m.View(3))
	if second != (api.Tree{Camera: 69, Root: 70}) || errno != api.OK {
		t.Error(second, errno)
	}
}

// P11.2: Make without room for the camera, for the root, and with just enough.
func TestMakeWithoutRoom(t *testing.T) {
	for left, accesses := range map[int]string{0: "Alloc [1]: 0", 1: "Alloc [1]: 127, Alloc of 64: 0", 2: "Alloc [1]: 126, Alloc of 64: 0", 64: "Alloc [1]: 64, Alloc of 64: 0"} {
		m := newMemory(t, left)
		from := m.Made()
		if got, errno := trie.Make(m.View(0)); got != (api.Tree{}) || errno != api.ErrMemory || made(m, from) != accesses {
			t.Errorf("%d left: %v, %d, %s", left, got, errno, made(m, from))
		}
	}
	m := newMemory(t, 65)
	if got, errno := trie.Make(m.View(0)); got != (api.Tree{Camera: 63, Root: 64}) || errno != api.OK || m.Left() != 0 {
		t.Error(got, errno, m.Left())
	}
	if got, errno := trie.Make(nil); got != (api.Tree{}) || errno != api.ErrNil {
		t.Error(got, errno)
	}
}

// room is what a proc needs: the lengths of its Allocs, on a memory where it has room.
func room(t *testing.T, m *arena.Memory, p step.Proc) []int {
	t.Helper()
	n := m.Fork()
	alone(t, n, p)
	var l []int
	for _, a := range n.Trace() {
		if a.Kind == api.Alloc {
			l = append(l, len(a.Values))
		}
	}
	return l
}

// P11.1, P11.6: without room at each Alloc of a Put, a Remove and a Swap: ErrMemory in its step; the trie is as it was. With just enough it is done.
func TestWithoutRoom(t *testing.T) {
	a, b := keyOf(t, 4, 1, 2, 3), keyOf(t, 4, 1, 2, 4)
	for name, c := range map[string]struct {
		allocs int
		proc   func() teller
	}{
		"a new key":     {2, func() teller { return trie.NewPut(tree, keyOf(t, 9), 5) }},
		"a key's value": {2, func() teller { return trie.NewPut(tree, a, 5) }},
		"beside a key":  {9, func() teller { return trie.NewPut(tree, b, 5) }},
		"remove":        {1, func() teller { return trie.NewRemove(tree, a) }},
		"swap":          {2, func() teller { return trie.NewSwap(tree, a, 1, 5) }},
	} {
		first := newTrie(t)
		put(t, first, a, 1)
		before := trie.Pairs(first, tree)
		lengths := room(t, first, c.proc())
		if len(lengths) != c.allocs {
			t.Fatalf("%s: %d", name, lengths)
		}
		need := 0
		for _, length := range lengths {
			for left := need; left < need+length; left++ {
				m := first.Fork()
				fill(m, left)
				p := c.proc()
				from := m.Made()
				alone(t, m, p)
				l := m.Trace()[from:]
				if last := l[len(l)-1]; !reflect.DeepEqual(p.Answer(), failed(api.ErrMemory)) || last.Kind != api.Alloc || last.Addr != 0 || len(last.Values) != length || m.Left() != left-need {
					t.Errorf("%s, %d left: %+v, %+v, %d", name, left, p.Answer(), last, m.Left())
				}
				checkPairs(t, m, before...)
				f := trie.NewFind(tree, a)
				if alone(t, m, f); !reflect.DeepEqual(f.Answer(), found(1)) {
					t.Errorf("%s, %d left: %+v", name, left, f.Answer())
				}
			}
			need += length
		}
		m := first.Fork()
		fill(m, need)
		p := c.proc()
		if alone(t, m, p); p.Answer().Errno != api.OK || m.Left() != 0 || reflect.DeepEqual(trie.Pairs(m, tree), before) {
			t.Errorf("%s: %+v, %d left", name, p.Answer(), m.Left())
		}
	}
}

// P11.6: Puts till there is no room: all that were put are there, and all else goes on.
func TestPutsTillFull(t *testing.T) {
	m := newTrie(t)
	want := []api.Pair{}
	for key := uint64(0); ; key++ {
		p := trie.NewPut(tree, key, key*10)
		alone(t, m, p)
		if p.Answer().Errno == api.ErrMemory {
			break
		}
		want = append(want, api.Pair{Key: key, Value: key * 10})
	}
	fill(m, 0)
	checkPairs(t, m, want...)
	for _, pair := range want {
		f, s, r := trie.NewFind(tree, pair.Key), trie.NewSwap(tree, pair.Key, pair.Value, 1), trie.NewRemove(tree, pair.Key)
		alone(t, m, f)
		alone(t, m, s)
		alone(t, m, r)
		if !reflect.DeepEqual(f.Answer(), found(pair.Value)) || s.Answer().Errno != api.ErrMemory || r.Answer().Errno != api.ErrMemory {
			t.Errorf("%v: %+v, %+v, %+v", pair, f.Answer(), s.Answer(), r.Answer())
		}
	}
	r := trie.NewRemove(tree, uint64(len(want)))
	if alone(t, m, r); !reflect.DeepEqual(r.Answer(), api.Answer{}) || len(want) < 30 {
		t.Errorf("%+v, %d keys", r.Answer(), len(want))
	}
	checkPairs(t, m, want...)
}

// P1 of the document's rules: nil procs.
func TestNilProcs(t *testing.T) {
	var find *trie.Find
	var put *trie.Put
	var remove *trie.Remove
	var swap *trie.Swap
	m := newMemory(t, 127)
	for _, p := range []teller{find, put, remove, swap} {
		if !p.Step(m.View(0)) || !p.Step(nil) || !reflect.DeepEqual(p.Answer(), failed(api.ErrNil)) || m.Made() != 0 {
			t.Errorf("%T: %+v", p, p.Answer())
		}
	}
}

// P1 of the document's rules: nil views: an object reads 0, an Alloc has no room.
func TestNilViews(t *testing.T) {
	for i, c := range []struct {
		proc  teller
		steps int
		want  api.Answer
	}{
		{trie.NewFind(tree, 7), 1, api.Answer{}},
		{trie.NewPut(tree, 7, 1), 2, failed(api.ErrMemory)},
		{trie.NewRemove(tree, 7), 1, api.Answer{}},
		{trie.NewSwap(tree, 7, 0, 1), 1, api.Answer{}},
	} {
		if c.steps > 1 && step.Alone(nil, c.proc, c.steps-1) || !c.proc.Step(nil) || !c.proc.Step(nil) || !reflect.DeepEqual(c.proc.Answer(), c.want) {
			t.Errorf("%d: %+v", i, c.proc.Answer())
		}
	}
	// Views that are nil at each of the steps from one on.
	for steps := range 20 {
		for _, p := range []teller{trie.NewFind(tree, 7), trie.NewPut(tree, 7, 2), trie.NewRemove(tree, 7), trie.NewSwap(tree, 7, 1, 2)} {
			m := newTrie(t)
			put(t, m, 7, 1)
			step.Alone(m.View(0), p, steps)
			from := m.Made()
			if !step.Alone(nil, p, 20) || m.Made() != from {
				t.Errorf("%T behind %d steps: %+v", p, steps, p.Answer())
			}
		}
	}
	f := trie.NewFind(tree, 7)
	m := newTrie(t)
	put(t, m, 7, 1)
	if step.Alone(m.View(0), f, 4) || !f.Step(nil) || !reflect.DeepEqual(f.Answer(), found(0)) {
		t.Error(f.Answer())
	}
}

// P1 of the document's rules: trees that are nowhere; addresses go round.
func TestTreesThatAreNone(t *testing.T) {
	for _, tree := range []api.Tree{{}, {Camera: 500, Root: 500}, {Camera: 1 << 62, Root: 1 << 62}, {Camera: greatest, Root: greatest - 3}, {Camera: 1, Root: greatest}} {
		m := newMemory(t, 127)
		f, r, s := trie.NewFind(tree, 7), trie.NewRemove(tree, 7), trie.NewSwap(tree, 7, 0, 1)
		for _, p := range []teller{f, r, s} {
			if !step.Alone(m.View(0), p, 1) || !reflect.DeepEqual(p.Answer(), api.Answer{}) {
				t.Errorf("%v: %+v", tree, p.Answer())
			}
		}
		if addr := m.Trace()[0].Addr; addr != tree.Root+4 {
			t.Error("the object", addr)
		}
		if l := trie.Pairs(m, tree); len(l) != 0 {
			t.Error(tree, l)
		}
	}
	// The cell 0 is a cell as any other; here it is an object.
	round := api.Tree{Camera: 127, Root: greatest - 3}
	m := newMemory(t, 127)
	p, f := trie.NewPut(round, 7, 1), trie.NewFind(round, 7)
	alone(t, m, p)
	alone(t, m, f)
	if m.Peek(0) == 0 || !reflect.DeepEqual(p.Answer(), api.Answer{}) || !reflect.DeepEqual(f.Answer(), found(1)) {
		t.Errorf("%+v, %+v, %d", p.Answer(), f.Answer(), m.Peek(0))
	}
}
