package vcas_test

import (
	"iter"
	"math/rand"
	"reflect"
	"testing"

	"shutter/api"
	"shutter/arena"
	"shutter/step"
	"shutter/vcas"
)

// spoken is a proc as the chapter says it: plain code, line by line, that stands still ahead of each access but the first one.
type spoken struct {
	told
	view  *arena.View
	begun bool
	pause func(struct{}) bool
	next  func() (struct{}, bool)
	stop  func()
}

// speak is a proc that does what a function does.
func speak(t *testing.T, body func(s *spoken) told) *spoken {
	s := &spoken{}
	s.next, s.stop = iter.Pull(func(yield func(struct{}) bool) {
		defer func() { recover() }() // from the panic of one that is stopped
		s.pause = yield
		s.told = body(s)
	})
	t.Cleanup(s.stop)
	return s
}

func (s *spoken) Step(v *arena.View) bool {
	s.view = v
	_, more := s.next()
	return !more
}

// turn is the view of the step that the next access belongs to.
func (s *spoken) turn() *arena.View {
	if s.begun && !s.pause(struct{}{}) {
		panic("stopped")
	}
	s.begun = true
	return s.view
}

func (s *spoken) load(addr uint64) uint64        { return s.turn().Load(addr) }
func (s *spoken) cas(addr, old, now uint64) bool { return s.turn().Cas(addr, old, now) }
func (s *spoken) alloc(values ...uint64) uint64  { return s.turn().Alloc(values) }
func initWords(s *spoken, camera, version uint64) {
	if stamp := s.load(version + 1); stamp != 0 {
		return
	}
	c := s.load(camera)
	s.cas(version+1, 0, c)
}

func readWords(s *spoken, camera, object uint64) told {
	h := s.load(object)
	if h == 0 {
		return told{}
	}
	initWords(s, camera, h)
	return told{Value: s.load(h)}
}

func casWords(s *spoken, camera, object, old, now uint64) told {
	h, value := s.load(object), uint64(0)
	if h != 0 {
		initWords(s, camera, h)
		value = s.load(h)
	}
	if value != old {
		return told{}
	}
	if old == now {
		return told{Done: true}
	}
	n := s.alloc(now, 0, h)
	if n == 0 {
		return told{Errno: api.ErrMemory}
	}
	if s.cas(object, h, n) {
		initWords(s, camera, n)
		return told{Done: true}
	}
	g := s.load(object)
	initWords(s, camera, g)
	return told{}
}

func atWords(s *spoken, camera, object, stamp uint64) told {
	h := s.load(object)
	if h == 0 {
		return told{}
	}
	initWords(s, camera, h)
	for {
		if at := s.load(h + 1); at <= stamp {
			return told{Value: s.load(h)}
		}
		if h = s.load(h + 2); h == 0 {
			return told{}
		}
	}
}

// both is a proc of the package, and the same as the chapter says it.
func both(t *testing.T, kind int, camera, object, a, b uint64) (step.Proc, *spoken) {
	switch kind {
	case 0:
		return vcas.NewInit(camera, object), speak(t, func(s *spoken) told {
			initWords(s, camera, object)
			return told{}
		})
	case 1:
		return vcas.NewRead(camera, object), speak(t, func(s *spoken) told { return readWords(s, camera, object) })
	case 2:
		return vcas.NewAt(camera, object, a), speak(t, func(s *spoken) told { return atWords(s, camera, object, a) })
	}
	return vcas.NewCas(camera, object, a, b), speak(t, func(s *spoken) told { return casWords(s, camera, object, a, b) })
}

// drawMemories are two of the same: cells hold numbers most of which are addresses, so that chains run into one another, come back, and lead out.
func drawMemories(t *testing.T, r *rand.Rand) (*arena.Memory, *arena.Memory) {
	m, errno := arena.New(128, false)
	if errno != api.OK {
		t.Fatal(errno)
	}
	v := m.View(0)
	cells := 4 + r.Intn(20)
	v.Alloc(make([]uint64, cells))
	for addr := range uint64(cells + 1) {
		v.Store(addr, drawNumber(r, cells))
	}
	if r.Intn(3) == 0 {
		v.Alloc(make([]uint64, m.Left()-r.Intn(10)))
	}
	return m.Fork(), m.Fork()
}

func drawNumber(r *rand.Rand, cells int) uint64 {
	switch r.Intn(12) {
	case 0, 1, 2:
		return 0
	case 3:
		return uint64(124 + r.Intn(8))
	case 4:
		return -uint64(1 + r.Intn(4))
	}
	return uint64(1 + r.Intn(cells))
}

// P9.1: by any threads and picks, on whatever memory, a proc makes the accesses that the chapter says, in the same steps, and tells the same.
func TestAsTheChapterSays(t *testing.T) {
	kinds := map[told]int{}
	for seed := range int64(3000) {
		r := rand.New(rand.NewSource(seed))
		m, n := drawMemories(t, r)
		var procs, words [][]step.Proc
		for range 1 + r.Intn(3) {
			var ps, ws []step.Proc
			for range 1 + r.Intn(4) {
				camera, object := drawNumber(r, 10), drawNumber(r, 10)
				p, w := both(t, r.Intn(5), camera, object, drawNumber(r, 10), drawNumber(r, 10))
				ps, ws = append(ps, p), append(ws, w)
			}
			procs, words = append(procs, ps), append(words, ws)
		}
		a, _ := step.New(m, procs)
		b, _ := step.New(n, words)
		for range 120 {
			thread := r.Intn(len(procs))
			if a.Pick(thread) != b.Pick(thread) {
				t.Fatal("seed", seed, "one of the two is done")
			}
			for i := range procs {
				for j, p := range procs[i] {
					if got, want := tellsOf(p), words[i][j].(*spoken).told; got != want {
						t.Fatalf("seed %d: %T tells %+v, not %+v", seed, p, got, want)
					}
				}
			}
		}
		if !reflect.DeepEqual(m.Trace(), n.Trace()) || !reflect.DeepEqual(a.Events(), b.Events()) {
			t.Fatal("seed", seed, "\n", made(m, 0), "\n", made(n, 0))
		}
		for i := range procs {
			for _, p := range procs[i] {
				kinds[tellsOf(p)]++
			}
		}
	}
	if kinds[told{Done: true}] < 50 || kinds[told{Errno: api.ErrMemory}] < 50 || len(kinds) < 20 {
		t.Error("too little has come up:", kinds)
	}
}

// P9.2: Versions of whatever memory, held against a walk cell by cell.
func TestVersionsAsTheChapterSays(t *testing.T) {
	lengths := map[int]int{}
	for seed := range int64(2000) {
		r := rand.New(rand.NewSource(seed))
		m, _ := drawMemories(t, r)
		for object := range uint64(130) {
			var want []api.Version
			for h := m.Peek(object); h >= 1 && h <= 125 && len(want) < 128; h = m.Peek(h + 2) {
				want = append(want, api.Version{Value: m.Peek(h), Stamp: m.Peek(h + 1)})
			}
			checkVersions(t, m, object, want...)
			lengths[len(want)]++
		}
	}
	if lengths[0] == 0 || lengths[1] == 0 || lengths[128] == 0 {
		t.Error("too little has come up:", lengths)
	}
}
