package announce_test

import (
	"iter"
	"math/rand"
	"reflect"
	"slices"
	"testing"

	"shutter/announce"
	"shutter/api"
	"shutter/arena"
	"shutter/camera"
	"shutter/step"
)

// spoken is a proc as the chapter says it: plain code, line by line, that stands still ahead of each access but the first one.
type spoken struct {
	told
	api.Slots
	view  *arena.View
	begun bool
	pause func(struct{}) bool
	next  func() (struct{}, bool)
}

// speak is a proc that does what a function does.
func speak(t *testing.T, slots api.Slots, body func(s *spoken) told) *spoken {
	s := &spoken{Slots: slots}
	next, stop := iter.Pull(func(yield func(struct{}) bool) {
		defer func() { recover() }() // from the panic of one that is stopped
		s.pause = yield
		s.told = body(s)
	})
	s.next = next
	t.Cleanup(stop)
	return s
}

func (s *spoken) Step(v *arena.View) bool {
	s.view = v
	_, more := s.next()
	return !more
}

// turn is the view of the step that the next access belongs to.
func (s *spoken) turn() *arena.View {
	if s.begun && !s.pause(struct{}{}) {
		panic("stopped")
	}
	s.begun = true
	return s.view
}

func (s *spoken) load(addr uint64) uint64        { return s.turn().Load(addr) }
func (s *spoken) store(addr, w uint64)           { s.turn().Store(addr, w) }
func (s *spoken) cas(addr, old, now uint64) bool { return s.turn().Cas(addr, old, now) }

const (
	freeKind = iota
	claimedKind
	earlyKind
	exactKind
)

// wordOf is the word of a kind, a generation and a stamp, as chapter 1 says it.
func wordOf(kind, gen, stamp uint64) uint64 {
	return kind + gen%(1<<20)*4 + stamp<<22
}

func kindOf(w uint64) uint64  { return w % 4 }
func genOf(w uint64) uint64   { return w / 4 % (1 << 20) }
func stampOf(w uint64) uint64 { return w >> 22 }

func snapshotWords(s *spoken) told {
	for i := range uint64(max(0, min(s.Count, 256))) {
		w := s.load(s.First + i)
		g := genOf(w)
		if kindOf(w) == freeKind && g < 1<<20-1 && s.cas(s.First+i, w, wordOf(claimedKind, g, 0)) {
			return takeWords(s, i, g)
		}
	}
	return told{Errno: api.ErrSlot}
}

func takeWords(s *spoken, i, g uint64) told {
	a := s.load(s.Camera)
	s.store(s.First+i, wordOf(earlyKind, g, a))
	at := s.load(s.Camera)
	if at >= s.Most {
		s.store(s.First+i, wordOf(freeKind, g, 0))
		return told{Errno: api.ErrStamp}
	}
	s.cas(s.Camera, at, at+1)
	s.store(s.First+i, wordOf(exactKind, g, at))
	return told{Handle: i + 1 + g<<16, Stamp: at}
}

func releaseWords(s *spoken, handle uint64) told {
	i, g := handle%(1<<16)-1, handle>>16
	if i >= 256 || g >= 1<<20 || int(i) >= s.Count {
		return told{Errno: api.ErrHandle}
	}
	w := s.load(s.First + i)
	if kindOf(w) != exactKind || genOf(w) != g || !s.cas(s.First+i, w, wordOf(freeKind, g+1, 0)) {
		return told{Errno: api.ErrHandle}
	}
	return told{}
}

func scanWords(s *spoken) told {
	floor := s.load(s.Camera)
	var words []uint64
	for i := range uint64(max(0, min(s.Count, 256))) {
		words = append(words, s.load(s.First+i))
	}
	for _, w := range words {
		if kindOf(w) == earlyKind {
			floor = min(floor, stampOf(w))
		}
	}
	var stamps []uint64
	for _, w := range words {
		if kindOf(w) == exactKind && stampOf(w) < floor && !slices.Contains(stamps, stampOf(w)) {
			stamps = append(stamps, stampOf(w))
		}
	}
	slices.Sort(stamps)
	return needed(floor, stamps...)
}

// both is a proc of the package, and the same as the chapter says it.
func both(t *testing.T, r *rand.Rand, s api.Slots) (step.Proc, *spoken) {
	switch r.Intn(5) {
	case 0:
		return announce.NewScan(s), speak(t, s, scanWords)
	case 1, 2:
		handle := uint64(r.Intn(5)) + uint64(r.Intn(3))<<16
		switch r.Intn(8) {
		case 0:
			handle += api.MaxGen << 16 >> r.Intn(2)
		case 1:
			handle += (api.MaxGen - 2) << 16
		}
		return announce.NewRelease(s, handle), speak(t, s, func(s *spoken) told { return releaseWords(s, handle) })
	}
	return announce.NewSnapshot(s), speak(t, s, snapshotWords)
}

func drawSlots(r *rand.Rand) api.Slots {
	s := api.Slots{Camera: clock, First: first, Count: r.Intn(5), Most: 10}
	switch r.Intn(12) {
	case 0:
		s.First = greatest - uint64(r.Intn(3))
	case 1:
		s.Count = -1 - r.Intn(4)
	case 2:
		s.Most = uint64(r.Intn(3))
	case 3:
		s.Most = greatest - uint64(r.Intn(3))
	case 4:
		s.Camera = uint64(r.Intn(8))
	case 5:
		s.First = uint64(398 + r.Intn(3))
	}
	return s
}

// drawWord is a slot's, most of them such as come up.
func drawWord(r *rand.Rand) uint64 {
	switch r.Intn(10) {
	case 0:
		return r.Uint64()
	case 1:
		return wordOf(uint64(r.Intn(4)), api.MaxGen-3+uint64(r.Intn(3)), uint64(r.Intn(8)))
	case 2, 3, 4:
		return wordOf(freeKind, uint64(r.Intn(3)), 0)
	}
	return wordOf(uint64(r.Intn(4)), uint64(r.Intn(3)), uint64(r.Intn(8)))
}

// drawMemories are two of the same.
func drawMemories(t *testing.T, r *rand.Rand) (*arena.Memory, *arena.Memory) {
	stamp := uint64(1 + r.Intn(10))
	switch r.Intn(10) {
	case 0:
		stamp = greatest - uint64(r.Intn(3))
	case 1:
		stamp = 1<<42 + uint64(r.Intn(3))
	}
	m := newSlots(t, stamp)
	for addr := range uint64(6) {
		m.View(9).Store(first+addr, drawWord(r))
	}
	return m.Fork(), m.Fork()
}

// P13.1: by any threads and picks, on whatever slots, a proc makes the accesses that the chapter says, in the same steps, and tells the same.
func TestAsTheChapterSays(t *testing.T) {
	errnos := map[api.Errno]int{}
	handles, stamps := 0, 0
	for seed := range int64(4000) {
		r := rand.New(rand.NewSource(seed))
		m, n := drawMemories(t, r)
		s := drawSlots(r)
		procs, words := make([][]step.Proc, 1+r.Intn(4)), make([][]step.Proc, 4)
		for i := range procs {
			for range 1 + r.Intn(4) {
				p, w := both(t, r, s)
				procs[i], words[i] = append(procs[i], p), append(words[i], w)
			}
			if r.Intn(4) == 0 {
				procs[i] = append(procs[i], camera.NewTake(s.Camera, s.Most))
				words[i] = append(words[i], camera.NewTake(s.Camera, s.Most))
			}
		}
		a, _ := step.New(m, procs)
		b, _ := step.New(n, words[:len(procs)])
		for range 150 {
			thread := r.Intn(len(procs))
			if a.Pick(thread) != b.Pick(thread) {
				t.Fatal("seed", seed, "one of the two is done")
			}
			for i := range procs {
				for j, w := range words[i] {
					if q, ok := w.(*spoken); ok && tellsOf(procs[i][j]) != q.told {
						t.Fatalf("seed %d: %T tells %+v, not %+v", seed, procs[i][j], tellsOf(procs[i][j]), q.told)
					}
				}
			}
		}
		if !reflect.DeepEqual(m.Trace(), n.Trace()) || !reflect.DeepEqual(a.Events(), b.Events()) {
			t.Fatalf("seed %d\n%s\n\n%s", seed, made(m, 0), made(n, 0))
		}
		for i := range procs {
			for _, w := range words[i] {
				if q, ok := w.(*spoken); ok {
					errnos[q.Errno]++
					handles += int(min(q.Handle, 1))
					stamps += min(len(q.Stamps), 1)
				}
			}
		}
	}
	if errnos[api.ErrSlot] < 500 || errnos[api.ErrStamp] < 500 || errnos[api.ErrHandle] < 500 || handles < 500 || stamps < 500 {
		t.Error("too little has come up:", errnos, handles, stamps)
	}
}
