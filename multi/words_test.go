package multi_test

import (
	"cmp"
	"iter"
	"math/rand"
	"reflect"
	"slices"
	"testing"

	"shutter/api"
	"shutter/arena"
	"shutter/multi"
	"shutter/step"
)

// told is what came of a proc.
type told struct {
	done  bool
	errno api.Errno
	value uint64
}

// spoken is a proc as the chapter says it: plain code, line by line, that stands still ahead of each access but the first one.
type spoken struct {
	told  told
	view  *arena.View
	begun bool
	pause func(struct{}) bool
	next  func() (struct{}, bool)
}

// speak is a proc that does what a function does.
func speak(t *testing.T, body func(s *spoken) told) *spoken {
	s := &spoken{}
	next, stop := iter.Pull(func(yield func(struct{}) bool) {
		defer func() { recover() }() // from the panic of one that is stopped
		s.pause = yield
		s.told = body(s)
	})
	s.next = next
	t.Cleanup(stop)
	return s
}

func (s *spoken) Step(v *arena.View) bool {
	s.view = v
	_, more := s.next()
	return !more
}

// turn is the view of the step that the next access belongs to.
func (s *spoken) turn() *arena.View {
	if s.begun && !s.pause(struct{}{}) {
		panic("stopped")
	}
	s.begun = true
	return s.view
}

func (s *spoken) load(addr uint64) uint64        { return s.turn().Load(addr) }
func (s *spoken) cas(addr, old, now uint64) bool { return s.turn().Cas(addr, old, now) }
func (s *spoken) alloc(values ...uint64) uint64  { return s.turn().Alloc(values) }
func (s *spoken) casBy(ok bool, a, r, yes, no uint64) {
	if ok {
		s.cas(a, r, yes)
	} else {
		s.cas(a, r, no)
	}
}

func (s *spoken) settle(r uint64) {
	x := r / 4
	p := s.load(x)
	a := s.load(x + 1)
	o := s.load(x + 2)
	w := s.load(x + 3)
	s.casBy(s.load(p) == 0, a, r, w, o)
}

// take is how the TRY of an entry ends: 0, if the next one is to be looked at, or else the outcome.
func (s *spoken) take(d, i uint64) uint64 {
	a := s.load(d + 2 + 3*i)
	o := s.load(d + 3 + 3*i)
	x := s.alloc(d, a, o, 4*d+2)
	if x == 0 {
		return 3
	}
	for !s.cas(a, o, 4*x+1) {
		switch r := s.load(a); {
		case r%4 == 1:
			s.settle(r)
		case r == o:
		case r == 4*d+2:
			return 0
		case r%4 == 2:
			s.help(r / 4)
		default:
			return 2
		}
	}
	s.casBy(s.load(d) == 0, a, 4*x+1, 4*d+2, o)
	return 0
}

func (s *spoken) help(d uint64) {
	state := s.load(d)
	n := min(s.load(d+1), 16)
	if state == 0 {
		outcome := uint64(0)
		for i := uint64(0); i < n && outcome == 0; i++ {
			outcome = s.take(d, i)
		}
		s.cas(d, 0, max(outcome, 1))
	}
	state = s.load(d)
	for i := range n {
		a := s.load(d + 2 + 3*i)
		at := d + 3 + 3*i
		if state == 1 {
			at++
		}
		s.cas(a, 4*d+2, s.load(at))
	}
}

func multiWords(s *spoken, l []multi.Entry) told {
	if len(l) == 0 {
		return told{done: true}
	}
	sorted := slices.Clone(l)
	slices.SortFunc(sorted, func(a, b multi.Entry) int { return cmp.Compare(a.Addr, b.Addr) })
	record := []uint64{0, uint64(len(l))}
	for _, e := range sorted {
		record = append(record, e.Addr, 4*e.Old, 4*e.New)
	}
	d := s.alloc(record...)
	if d == 0 {
		return told{errno: api.ErrMemory}
	}
	s.help(d)
	switch s.load(d) {
	case 1:
		return told{done: true}
	case 3:
		return told{errno: api.ErrMemory}
	}
	return told{}
}

func readWords(s *spoken, addr uint64) told {
	for {
		switch r := s.load(addr); r % 4 {
		case 1:
			s.settle(r)
		case 2:
			s.help(r / 4)
		default:
			return told{value: r / 4}
		}
	}
}

// toldOf is what came of a proc of the package.
func toldOf(p step.Proc) told {
	if r, ok := p.(*multi.Read); ok {
		return told{value: r.Value()}
	}
	m := p.(*multi.Multi)
	return told{done: m.Done(), errno: m.Errno()}
}

// drawEntries are entries of cells from 1 on.
func drawEntries(r *rand.Rand, cells int) []multi.Entry {
	var l []multi.Entry
	for _, i := range r.Perm(cells)[:r.Intn(min(cells, 4)+1)] {
		l = append(l, entry(uint64(i+1), uint64(r.Intn(2)), uint64(r.Intn(3))))
	}
	return l
}

// drawMemory has cells that hold values, addresses, states, and words of plans and locks that nobody made.
func drawMemory(t *testing.T, r *rand.Rand) *arena.Memory {
	t.Helper()
	m, errno := arena.New(700, false)
	if errno != api.OK {
		t.Fatal(errno)
	}
	v := m.View(9)
	cells := 6 + r.Intn(30)
	v.Alloc(make([]uint64, cells))
	for addr := range uint64(cells + 1) {
		v.Store(addr, drawWord(r, cells))
	}
	if r.Intn(3) == 0 {
		v.Alloc(make([]uint64, m.Left()-r.Intn(60)))
	}
	return m
}

func drawWord(r *rand.Rand, cells int) uint64 {
	addr := uint64(1 + r.Intn(cells))
	switch r.Intn(10) {
	case 0, 1:
		return uint64(r.Intn(4))
	case 2:
		return 4 * uint64(r.Intn(3))
	case 3, 4:
		return 4*addr + 1
	case 5, 6:
		return 4*addr + 2
	case 7:
		return -uint64(1 + r.Intn(5))
	}
	return addr
}

// P29.1: by any threads and picks, on whatever memory, a proc makes the accesses that the chapter says, in the same steps, and tells the same.
func TestAsTheChapterSays(t *testing.T) {
	kinds := map[string]int{}
	for seed := range int64(4000) {
		r := rand.New(rand.NewSource(seed))
		if seed%3 == 0 {
			sameSteps(t, r, drawMemory(t, r), 8, kinds)
			continue
		}
		values := make([]uint64, 2+r.Intn(4))
		for i := range values {
			values[i] = uint64(r.Intn(2))
		}
		left := 3000
		if seed%5 == 0 {
			left = r.Intn(120)
		}
		sameSteps(t, r, newMemory(t, left, values...), len(values), kinds)
	}
	for _, kind := range []string{"done", "not done", "no memory", "read"} {
		if kinds[kind] < 200 {
			t.Error("too little has come up:", kind, kinds)
		}
	}
}

// sameSteps lets procs, and the same as the chapter says them, go by the same picks, each on a memory of their own.
func sameSteps(t *testing.T, r *rand.Rand, first *arena.Memory, cells int, kinds map[string]int) {
	t.Helper()
	m, n := first.Fork(), first.Fork()
	threads := 1 + r.Intn(4)
	procs, words := make([][]step.Proc, threads), make([][]step.Proc, threads)
	for i := range threads {
		for range 1 + r.Intn(3) {
			if r.Intn(4) == 0 {
				addr := uint64(r.Intn(cells + 2))
				procs[i] = append(procs[i], multi.NewRead(addr))
				words[i] = append(words[i], speak(t, func(s *spoken) told { return readWords(s, addr) }))
				continue
			}
			l := drawEntries(r, cells)
			procs[i] = append(procs[i], multi.NewMulti(l))
			words[i] = append(words[i], speak(t, func(s *spoken) told { return multiWords(s, l) }))
		}
	}
	a, _ := step.New(m, procs)
	b, _ := step.New(n, words)
	for range 60 + r.Intn(400) {
		thread := r.Intn(threads)
		if a.Pick(thread) != b.Pick(thread) {
			t.Fatal("one of the two is done")
		}
		for j, p := range procs[thread] {
			if got, want := toldOf(p), words[thread][j].(*spoken).told; got != want {
				t.Fatalf("%T tells %+v, not %+v", p, got, want)
			}
		}
	}
	if !reflect.DeepEqual(m.Trace(), n.Trace()) || !reflect.DeepEqual(a.Events(), b.Events()) {
		t.Fatalf("%s\nnot: %s", made(m, 0), made(n, 0))
	}
	for _, event := range a.Events() {
		if event.Return {
			kinds[kindOf(procs[event.Thread][event.Index])]++
		}
	}
}

func kindOf(p step.Proc) string {
	if _, ok := p.(*multi.Read); ok {
		return "read"
	}
	switch o := toldOf(p); {
	case o.done:
		return "done"
	case o.errno != api.OK:
		return "no memory"
	}
	return "not done"
}
