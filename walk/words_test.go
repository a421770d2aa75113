package walk_test

import (
	"iter"
	"math/rand"
	"reflect"
	"slices"
	"testing"

	"shutter/api"
	"shutter/arena"
	"shutter/mix"
	"shutter/step"
	"shutter/vcas"
	"shutter/walk"
)

// spoken is a proc as the chapter says it: plain code, line by line, that stands still ahead of each access but the first one.
type spoken struct {
	found []api.Pair
	view  *arena.View
	begun bool
	pause func(struct{}) bool
	next  func() (struct{}, bool)
	tree  api.Tree
	stamp uint64
}

// speak is a proc that does what a function does.
func speak(t *testing.T, tree api.Tree, stamp uint64, body func(s *spoken) []api.Pair) *spoken {
	s := &spoken{tree: tree, stamp: stamp}
	next, stop := iter.Pull(func(yield func(struct{}) bool) {
		defer func() { recover() }() // from the panic of one that is stopped
		s.pause = yield
		s.found = body(s)
	})
	s.next = next
	t.Cleanup(stop)
	return s
}

func (s *spoken) Pairs() []api.Pair { return s.found }

func (s *spoken) Step(v *arena.View) bool {
	s.view = v
	_, more := s.next()
	return !more
}

// turn is the view of the step that the next access belongs to.
func (s *spoken) turn() *arena.View {
	if s.begun && !s.pause(struct{}{}) {
		panic("stopped")
	}
	s.begun = true
	return s.view
}

func (s *spoken) load(addr uint64) uint64 { return s.turn().Load(addr) }

// at is the chapter's AT.
func (s *spoken) at(object uint64) uint64 {
	p := vcas.NewAt(s.tree.Camera, object, s.stamp)
	for !p.Step(s.turn()) {
	}
	return p.Value()
}

func digitOf(key uint64, level int) uint64 {
	if level >= api.Levels {
		return 0
	}
	return uint64(mix.Digits(mix.Mix(key))[level])
}

func getWords(s *spoken, keys []uint64) []api.Pair {
	var l []api.Pair
	for _, key := range keys {
		level := 0
		w := s.at(s.tree.Root + digitOf(key, 0))
		for w != 0 && w%2 == 0 {
			level++
			w = s.at(w/2 + digitOf(key, level))
		}
		if w == 0 {
			continue
		}
		if k := s.load(w / 2); k == key {
			l = append(l, api.Pair{Key: key, Value: s.load(w/2 + 1)})
		}
	}
	return l
}

func rangeWords(s *spoken, lo, hi uint64) []api.Pair {
	if lo > hi {
		return nil
	}
	var l []api.Pair
	var branch func(addr uint64, level int)
	branch = func(addr uint64, level int) {
		for digit := range uint64(64) {
			w := s.at(addr + digit)
			switch {
			case w == 0:
			case w%2 == 1:
				if k := s.load(w / 2); k >= lo && k <= hi {
					l = append(l, api.Pair{Key: k, Value: s.load(w/2 + 1)})
				}
			case level < 10:
				branch(w/2, level+1)
			}
		}
	}
	branch(s.tree.Root, 0)
	var out []api.Pair
	for _, pair := range l {
		if !slices.ContainsFunc(out, func(p api.Pair) bool { return p.Key == pair.Key }) {
			out = append(out, pair)
		}
	}
	slices.SortFunc(out, func(a, b api.Pair) int {
		if a.Key < b.Key {
			return -1
		}
		return 1
	})
	return out
}

// drawKeys are keys whose ways go through few digits, so that many of them meet.
func drawKeys(r *rand.Rand) []uint64 {
	l := make([]uint64, 3+r.Intn(4))
	digits := make([]int, api.Levels)
	for i := range l {
		part := api.Levels
		if i > 0 {
			part = 1 + r.Intn(api.Levels)
		}
		for level := range part {
			digits[level] = r.Intn(8) / 5
		}
		h, _ := mix.Join(digits)
		l[i] = mix.Back(h)
	}
	return l
}

// drawTrie has branches in one another, leaves wherever they were laid, and versions of many stamps.
func drawTrie(t *testing.T, r *rand.Rand, keys []uint64) *arena.Memory {
	m := newTrie(t)
	m.View(9).Store(clock, uint64(1+r.Intn(8)))
	branches := []uint64{root}
	for range 2 + r.Intn(12) {
		object := branches[r.Intn(len(branches))] + uint64(r.Intn(2))
		leaf := m.View(9).Alloc([]uint64{keys[r.Intn(len(keys))], uint64(r.Intn(3))})
		switch r.Intn(6) {
		case 0:
			lay(m, object, 2*branches[r.Intn(len(branches))], uint64(r.Intn(8)))
		case 1, 2:
			branches = append(branches, layBranch(m, object))
		case 3:
			lay(m, object, uint64(r.Intn(4)), uint64(r.Intn(8)))
		default:
			lay(m, object, 2*leaf+1, uint64(r.Intn(8)))
		}
	}
	return m
}

// both is a proc of the package, and the same as the chapter says it.
func both(t *testing.T, r *rand.Rand, keys []uint64) (teller, *spoken) {
	stamp := uint64(r.Intn(8))
	if r.Intn(3) == 0 {
		lo, hi := keys[r.Intn(len(keys))], keys[r.Intn(len(keys))]
		if r.Intn(2) == 0 {
			lo, hi = 0, greatest
		}
		return walk.NewRange(tree, stamp, lo, hi), speak(t, tree, stamp, func(s *spoken) []api.Pair { return rangeWords(s, lo, hi) })
	}
	var asked []uint64
	for range r.Intn(5) {
		asked = append(asked, keys[r.Intn(len(keys))])
	}
	return walk.NewGet(tree, stamp, asked), speak(t, tree, stamp, func(s *spoken) []api.Pair { return getWords(s, asked) })
}

// P12.1: by any threads and picks, on whatever memory, a proc makes the accesses that the chapter says, in the same steps, and tells the same.
func TestAsTheChapterSays(t *testing.T) {
	lengths := map[int]int{}
	for seed := range int64(600) {
		r := rand.New(rand.NewSource(seed))
		keys := drawKeys(r)
		first := drawTrie(t, r, keys)
		m, n := first.Fork(), first.Fork()
		var procs, words [][]step.Proc
		var tellers [][2]teller
		for range 1 + r.Intn(3) {
			p, w := both(t, r, keys)
			q, u := both(t, r, keys)
			procs = append(procs, []step.Proc{p, q})
			words = append(words, []step.Proc{w, u})
			tellers = append(tellers, [2]teller{p, w}, [2]teller{q, u})
		}
		a, _ := step.New(m, procs)
		b, _ := step.New(n, words)
		for range 1500 {
			thread := r.Intn(len(procs))
			if a.Pick(thread) != b.Pick(thread) {
				t.Fatal("seed", seed, "one of the two is done")
			}
			for _, both := range tellers {
				if got, want := both[0].Pairs(), both[1].Pairs(); !same(got, want) {
					t.Fatalf("seed %d: %T tells %v, not %v", seed, both[0], got, want)
				}
			}
		}
		if !reflect.DeepEqual(m.Trace(), n.Trace()) || !reflect.DeepEqual(a.Events(), b.Events()) {
			t.Fatal("seed", seed, "the steps differ")
		}
		for _, both := range tellers {
			lengths[len(both[0].Pairs())]++
		}
	}
	if lengths[0] < 100 || lengths[1] < 100 || lengths[2] < 50 || lengths[4] == 0 {
		t.Error("too little has come up:", lengths)
	}
}
