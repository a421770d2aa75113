package trie_test

import (
	"iter"
	"math/rand"
	"reflect"
	"testing"

	"shutter/api"
	"shutter/arena"
	"shutter/mix"
	"shutter/node"
	"shutter/step"
	"shutter/trie"
	"shutter/vcas"
)

// spoken is a proc as the chapter says it: plain code, line by line, that stands still ahead of each access but the first one.
type spoken struct {
	answer api.Answer
	view   *arena.View
	begun  bool
	pause  func(struct{}) bool
	next   func() (struct{}, bool)
	leaf   uint64 // the word of the one that was made
	camera uint64
}

// speak is a proc that does what a function does.
func speak(t *testing.T, camera uint64, body func(s *spoken) api.Answer) *spoken {
	s := &spoken{camera: camera}
	next, stop := iter.Pull(func(yield func(struct{}) bool) {
		defer func() { recover() }() // from the panic of one that is stopped
		s.pause = yield
		s.answer = body(s)
	})
	s.next = next
	t.Cleanup(stop)
	return s
}

func (s *spoken) Answer() api.Answer { return s.answer }

func (s *spoken) Step(v *arena.View) bool {
	s.view = v
	_, more := s.next()
	return !more
}

// turn is the view of the step that the next access belongs to.
func (s *spoken) turn() *arena.View {
	if s.begun && !s.pause(struct{}{}) {
		panic("stopped")
	}
	s.begun = true
	return s.view
}

func (s *spoken) load(addr uint64) uint64 { return s.turn().Load(addr) }

// do does a proc of a layer below, in as many steps as that takes.
func (s *spoken) do(p step.Proc) {
	for !p.Step(s.turn()) {
	}
}

// end is where a way ends.
type end struct {
	object uint64
	level  int
	word   uint64
}

func digitOf(key uint64, level int) uint64 {
	if level >= api.Levels {
		return 0
	}
	return uint64(mix.Digits(mix.Mix(key))[level])
}

func (s *spoken) goDown(key, object uint64, level int) end {
	for {
		p := vcas.NewRead(s.camera, object)
		s.do(p)
		w := p.Value()
		if w == 0 || w%2 == 1 {
			return end{object, level, w}
		}
		level++
		object = w/2 + digitOf(key, level)
	}
}

// make is the word of the leaf; false: there was no room.
func (s *spoken) make(key, value uint64) bool {
	if s.leaf == 0 {
		p := node.NewLeaf(key, value)
		s.do(p)
		s.leaf = p.Word()
	}
	return s.leaf != 0
}

func (s *spoken) cas(e end, now uint64) (bool, api.Errno) {
	p := vcas.NewCas(s.camera, e.object, e.word, now)
	s.do(p)
	return p.Done(), p.Errno()
}

func findWords(s *spoken, root, key uint64) api.Answer {
	e := s.goDown(key, root+digitOf(key, 0), 0)
	if e.word == 0 {
		return api.Answer{}
	}
	a := e.word / 2
	if k := s.load(a); k != key {
		return api.Answer{}
	}
	return found(s.load(a + 1))
}

func putWords(s *spoken, root, key, value uint64) api.Answer {
	object, level := root+digitOf(key, 0), 0
	for {
		e := s.goDown(key, object, level)
		told, other := api.Answer{}, key
		if e.word != 0 {
			a := e.word / 2
			if other = s.load(a); other == key {
				told = found(s.load(a + 1))
			}
		}
		if !s.make(key, value) {
			return failed(api.ErrMemory)
		}
		now := s.leaf
		if other != key {
			a, b := mix.Digits(mix.Mix(other)), mix.Digits(mix.Mix(key))
			from := min(e.level+1, api.Levels)
			if reflect.DeepEqual(a[from:], b[from:]) {
				return failed(api.ErrKnown)
			}
			p := node.NewFork(e.word, mix.Mix(other), s.leaf, mix.Mix(key), e.level+1)
			s.do(p)
			if p.Errno() != api.OK {
				return failed(p.Errno())
			}
			now = p.Word()
		}
		done, errno := s.cas(e, now)
		if errno != api.OK {
			return failed(errno)
		}
		if done {
			return told
		}
		object, level = e.object, e.level
	}
}

func removeWords(s *spoken, root, key uint64) api.Answer {
	object, level := root+digitOf(key, 0), 0
	for {
		e := s.goDown(key, object, level)
		if e.word == 0 {
			return api.Answer{}
		}
		a := e.word / 2
		if k := s.load(a); k != key {
			return api.Answer{}
		}
		value := s.load(a + 1)
		done, errno := s.cas(e, 0)
		if errno != api.OK {
			return failed(errno)
		}
		if done {
			return found(value)
		}
		object, level = e.object, e.level
	}
}

func swapWords(s *spoken, root, key, old, now uint64) api.Answer {
	object, level := root+digitOf(key, 0), 0
	for {
		e := s.goDown(key, object, level)
		if e.word == 0 {
			return api.Answer{}
		}
		a := e.word / 2
		if k := s.load(a); k != key {
			return api.Answer{}
		}
		value := s.load(a + 1)
		if value != old {
			return found(value)
		}
		if !s.make(key, now) {
			return failed(api.ErrMemory)
		}
		done, errno := s.cas(e, s.leaf)
		if errno != api.OK {
			return failed(errno)
		}
		if done {
			return swapped(value)
		}
		object, level = e.object, e.level
	}
}

// both is a proc of the package, and the same as the chapter says it.
func both(t *testing.T, kind int, tree api.Tree, key, a, b uint64) (teller, *spoken) {
	switch kind {
	case 0:
		return trie.NewFind(tree, key), speak(t, tree.Camera, func(s *spoken) api.Answer { return findWords(s, tree.Root, key) })
	case 1:
		return trie.NewRemove(tree, key), speak(t, tree.Camera, func(s *spoken) api.Answer { return removeWords(s, tree.Root, key) })
	case 2:
		return trie.NewSwap(tree, key, a, b), speak(t, tree.Camera, func(s *spoken) api.Answer { return swapWords(s, tree.Root, key, a, b) })
	}
	return trie.NewPut(tree, key, a), speak(t, tree.Camera, func(s *spoken) api.Answer { return putWords(s, tree.Root, key, a) })
}

// drawKeys are keys whose ways go through few digits, so that many of them meet; some part early, and then never again.
func drawKeys(r *rand.Rand) []uint64 {
	l := make([]uint64, 3+r.Intn(3))
	digits := make([]int, api.Levels)
	for i := range l {
		part := api.Levels
		if i > 0 {
			part = 1 + r.Intn(api.Levels)
		}
		for level := range part {
			digits[level] = r.Intn(8) / 5
		}
		h, _ := mix.Join(digits)
		l[i] = mix.Back(h)
	}
	return l
}

// drawMemory has cells that hold addresses, words, keys, so that ways run into one another, come back, and lead out.
func drawMemory(t *testing.T, r *rand.Rand, keys []uint64) *arena.Memory {
	m, errno := arena.New(600, false)
	if errno != api.OK {
		t.Fatal(errno)
	}
	v := m.View(0)
	cells := 6 + r.Intn(24)
	v.Alloc(make([]uint64, cells))
	for addr := range uint64(cells + 1) {
		v.Store(addr, drawNumber(r, cells, keys))
	}
	if r.Intn(3) == 0 {
		v.Alloc(make([]uint64, m.Left()-r.Intn(90)))
	}
	return m
}

// wrongTrie has branches in one another, and leaves wherever they were laid.
func wrongTrie(t *testing.T, r *rand.Rand, keys []uint64) *arena.Memory {
	m := newTrie(t)
	branches := []uint64{root}
	for range 2 + r.Intn(8) {
		object := branches[r.Intn(len(branches))] + uint64(r.Intn(2))
		switch r.Intn(5) {
		case 0:
			lay(m, object, 2*branches[r.Intn(len(branches))])
		case 1:
			branches = append(branches, layBranch(m, object))
		default:
			layLeaf(m, object, keys[r.Intn(len(keys))], uint64(r.Intn(3)))
		}
	}
	return m
}

func drawNumber(r *rand.Rand, cells int, keys []uint64) uint64 {
	addr := uint64(1 + r.Intn(cells))
	switch r.Intn(12) {
	case 0, 1:
		return 0
	case 2, 3:
		return keys[r.Intn(len(keys))]
	case 4:
		return 2 * addr
	case 5, 6:
		return 2*addr + 1
	case 7:
		return -uint64(1 + r.Intn(4))
	}
	return addr
}

// P11.1: by any threads and picks, on whatever memory, a proc makes the accesses that the chapter says, in the same steps, and tells the same.
func TestAsTheChapterSays(t *testing.T) {
	kinds := map[string]int{}
	for seed := range int64(2500) {
		r := rand.New(rand.NewSource(seed))
		keys := drawKeys(r)
		switch seed % 3 {
		case 0:
			m := newTrie(t)
			for _, key := range keys[1:] {
				put(t, m, key, uint64(r.Intn(3)))
			}
			sameSteps(t, r, m, tree, keys, kinds)
		case 1:
			sameSteps(t, r, wrongTrie(t, r, keys), tree, keys, kinds)
		default:
			somewhere := api.Tree{Camera: uint64(r.Intn(4)), Root: uint64(r.Intn(8))}
			sameSteps(t, r, drawMemory(t, r, keys), somewhere, keys, kinds)
		}
	}
	for _, kind := range []string{"", "found", "done", "30", "5"} {
		if kinds[kind] < 20 {
			t.Error("too little has come up:", kind, kinds)
		}
	}
}

// sameSteps lets procs, and the same as the chapter says them, go by the same picks, each on a memory of their own.
func sameSteps(t *testing.T, r *rand.Rand, first *arena.Memory, tree api.Tree, keys []uint64, kinds map[string]int) {
	t.Helper()
	m, n := first.Fork(), first.Fork()
	var procs, words [][]step.Proc
	var tellers [][2]teller
	for range 1 + r.Intn(3) {
		var ps, ws []step.Proc
		for range 1 + r.Intn(3) {
			p, w := both(t, r.Intn(6), tree, keys[r.Intn(len(keys))], uint64(r.Intn(3)), uint64(r.Intn(3)))
			ps, ws = append(ps, p), append(ws, w)
			tellers = append(tellers, [2]teller{p, w})
		}
		procs, words = append(procs, ps), append(words, ws)
	}
	a, _ := step.New(m, procs)
	b, _ := step.New(n, words)
	for range 150 {
		thread := r.Intn(len(procs))
		if a.Pick(thread) != b.Pick(thread) {
			t.Fatal("one of the two is done")
		}
		for _, both := range tellers {
			if got, want := both[0].Answer(), both[1].Answer(); !reflect.DeepEqual(got, want) {
				t.Fatalf("%T tells %+v, not %+v", both[0], got, want)
			}
		}
	}
	if !reflect.DeepEqual(m.Trace(), n.Trace()) || !reflect.DeepEqual(a.Events(), b.Events()) {
		t.Fatalf("%s\nnot: %s", made(m, 0), made(n, 0))
	}
	for _, both := range tellers {
		kinds[kindOf(both[0].Answer())]++
	}
}

func kindOf(a api.Answer) string {
	switch {
	case a.Errno == api.ErrMemory:
		return "30"
	case a.Errno == api.ErrKnown:
		return "5"
	case a.Done:
		return "done"
	case a.Found:
		return "found"
	}
	return ""
}
