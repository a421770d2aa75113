package cut_test

import (
	"iter"
	"math/rand"
	"reflect"
	"testing"

	"shutter/announce"
	"shutter/api"
	"shutter/arena"
	"shutter/cut"
	"shutter/step"
	"shutter/word"
)

// spoken is a proc as the chapter says it: plain code, line by line, that stands still ahead of each access but the first one.
type spoken struct {
	told
	view  *arena.View
	begun bool
	pause func(struct{}) bool
	next  func() (struct{}, bool)
}

// speak is a proc that does what a function does.
func speak(t *testing.T, body func(s *spoken) told) *spoken {
	s := &spoken{}
	next, stop := iter.Pull(func(yield func(struct{}) bool) {
		defer func() { recover() }() // from the panic of one that is stopped
		s.pause = yield
		s.told = body(s)
	})
	s.next = next
	t.Cleanup(stop)
	return s
}

func (s *spoken) Step(v *arena.View) bool {
	s.view = v
	_, more := s.next()
	return !more
}

// turn is the view of the step that the next access belongs to.
func (s *spoken) turn() *arena.View {
	if s.begun && !s.pause(struct{}{}) {
		panic("stopped")
	}
	s.begun = true
	return s.view
}

func (s *spoken) load(addr uint64) uint64 { return s.turn().Load(addr) }
func (s *spoken) store(addr, w uint64)    { s.turn().Store(addr, w) }

func neededWords(n api.Need, stamp, newer uint64) bool {
	for t := stamp; t < newer; t++ {
		if t >= n.Floor {
			return true
		}
		for _, s := range n.Stamps {
			if s == t {
				return true
			}
		}
	}
	return false
}

func cutWords(s *spoken, object uint64, n api.Need) told {
	h := s.load(object)
	if h == 0 {
		return told{}
	}
	stamp := s.load(h + 1)
	if stamp == 0 {
		stamp = greatest
	}
	out := told{Head: s.load(h)}
	for x, sx := h, stamp; ; {
		y := s.load(x + 2)
		y0, sy := y, uint64(0)
		for y != 0 {
			if sy = s.load(y + 1); neededWords(n, sy, sx) {
				break
			}
			out.Count++
			y = s.load(y + 2)
		}
		if y != y0 {
			s.store(x+2, y)
		}
		if y == 0 {
			return out
		}
		x, sx = y, sy
	}
}

func collectWords(s *spoken, tree api.Tree, slots api.Slots) told {
	scan := announce.NewScan(slots)
	for !scan.Step(s.turn()) {
	}
	var out told
	var branch func(addr uint64, depth int)
	branch = func(addr uint64, depth int) {
		for digit := range uint64(64) {
			of := cutWords(s, addr+digit, scan.Need())
			out.Count += of.Count
			if of.Head != 0 && of.Head%2 == 0 && depth < 11 {
				branch(of.Head/2, depth+1)
			}
		}
	}
	branch(tree.Root, 1)
	return out
}

// drawTrie has branches in one another, versions of many stamps, some of them in no good order, and slots that say this and that.
func drawTrie(t *testing.T, r *rand.Rand) *arena.Memory {
	m := newTrie(t)
	v := m.View(9)
	v.Store(clock, uint64(1+r.Intn(9)))
	for i := range uint64(slots.Count) {
		w, _ := word.Pack(api.Slot{Kind: api.SlotKind(r.Intn(4)), Gen: uint64(r.Intn(3)), Stamp: uint64(r.Intn(9))})
		v.Store(first+i, w)
	}
	branches := []uint64{root}
	stamp := 1
	for range r.Intn(60) {
		stamp = min(stamp+r.Intn(8)/7, 8)
		object := branches[r.Intn(len(branches))] + uint64(r.Intn(3))
		of := uint64(stamp)
		if r.Intn(20) == 0 {
			of = uint64(r.Intn(9))
		}
		switch r.Intn(10) {
		case 0:
			branches = append(branches, layBranch(m, object))
		case 1:
			lay(m, object, 2*branches[r.Intn(len(branches))], of)
		default:
			lay(m, object, uint64(2*r.Intn(50)+r.Intn(2)*r.Intn(2)), of)
		}
	}
	return m
}

// both is a proc of the package, and the same as the chapter says it.
func both(t *testing.T, r *rand.Rand) (step.Proc, *spoken) {
	if r.Intn(3) == 0 {
		return cut.NewCollect(tree, slots), speak(t, func(s *spoken) told { return collectWords(s, tree, slots) })
	}
	object, n := uint64(root+r.Intn(3)), api.Need{Floor: uint64(r.Intn(10))}
	for range r.Intn(3) {
		n.Stamps = append(n.Stamps, uint64(r.Intn(9)))
	}
	return cut.NewCut(clock, object, n), speak(t, func(s *spoken) told { return cutWords(s, object, n) })
}

// P15.2: by any threads and picks, on whatever memory, a proc makes the accesses that the chapter says, in the same steps, and tells the same.
func TestAsTheChapterSays(t *testing.T) {
	counts := map[uint64]int{}
	for seed := range int64(500) {
		r := rand.New(rand.NewSource(seed))
		at := drawTrie(t, r)
		m, n := at.Fork(), at.Fork()
		var procs, words [][]step.Proc
		var pairs [][2]step.Proc
		for range 1 + r.Intn(3) {
			p, w := both(t, r)
			q, u := both(t, r)
			procs = append(procs, []step.Proc{p, q})
			words = append(words, []step.Proc{w, u})
			pairs = append(pairs, [2]step.Proc{p, w}, [2]step.Proc{q, u})
		}
		a, _ := step.New(m, procs)
		b, _ := step.New(n, words)
		for range 2500 {
			thread := r.Intn(len(procs))
			if a.Pick(thread) != b.Pick(thread) {
				t.Fatal("seed", seed, "one of the two is done")
			}
			for _, pair := range pairs {
				if got, want := tellsOf(pair[0]), tellsOf(pair[1]); got != want {
					t.Fatalf("seed %d: %T tells %+v, not %+v", seed, pair[0], got, want)
				}
			}
		}
		if !reflect.DeepEqual(m.Trace(), n.Trace()) || !reflect.DeepEqual(a.Events(), b.Events()) {
			t.Fatal("seed", seed, "the steps differ")
		}
		for _, pair := range pairs {
			counts[tellsOf(pair[0]).Count]++
		}
	}
	if counts[0] < 100 || counts[1] < 100 || counts[2] < 100 || counts[5] < 20 {
		t.Error("too little has come up:", counts)
	}
}
