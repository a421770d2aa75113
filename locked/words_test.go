package locked_test

import (
	"math/rand"
	"slices"
	"testing"

	"shutter/api"
	"shutter/locked"
	"shutter/model"
	"shutter/step"
	"shutter/store"
	"shutter/word"
)

// draw is an operation of a small store: all kinds, and one that is none; handles that hold, that were let go, and that are none's.
func draw(r *rand.Rand, told []uint64) api.Op {
	n := func(below int) uint64 { return uint64(r.Intn(below)) }
	op := api.Op{Kind: api.OpKind(n(12)), Key: n(5), Value: n(3), Old: n(3), Handle: n(5), Lo: n(5), Hi: n(6)}
	if len(told) > 0 && r.Intn(4) > 0 {
		op.Handle = told[len(told)-1-r.Intn(min(4, len(told)))]
	}
	for range r.Intn(5) {
		op.Keys = append(op.Keys, n(5))
	}
	return op
}

// configs are stores with many slots and few, many stamps and few.
func configs() []api.Config {
	var l []api.Config
	for _, slots := range []int{1, 2, 3, 9} {
		for _, stamps := range []uint64{1, 2, 5, 1000} {
			l = append(l, api.Config{Cells: 1 << 17, Slots: slots, Stamps: stamps, Multi: 1 + slots})
		}
	}
	return l
}

// spoken is the chapter's words, said again: what holds, and the generations, as lists of handles.
type spoken struct {
	config api.Config
	model  *model.Model
	told   []uint64
	gone   []uint64 // those that were let go
}

// do is what an operation tells.
func (s *spoken) do(op api.Op) api.Answer {
	handle := uint64(0)
	if op.Kind == api.Snapshot {
		var errno api.Errno
		if handle, errno = s.next(); errno != api.OK {
			return api.Answer{Errno: errno}
		}
		s.told = append(s.told, handle)
	}
	a := s.model.Do(op, handle)
	if op.Kind == api.Release && a.Errno == api.OK {
		s.gone = append(s.gone, op.Handle)
	}
	return a
}

// next is the handle that a Snapshot tells.
func (s *spoken) next() (uint64, api.Errno) {
	holding := s.model.Handles()
	if len(holding) == s.config.Slots {
		return 0, api.ErrSlot
	}
	if uint64(len(s.told)) == s.config.Stamps-1 {
		return 0, api.ErrStamp
	}
	for slot := range s.config.Slots {
		of := func(handle uint64) bool {
			of, _, _ := word.Unhandle(handle)
			return of == slot
		}
		gen := uint64(0)
		for _, handle := range s.gone {
			if of(handle) {
				gen++
			}
		}
		if !slices.ContainsFunc(holding, of) && gen < api.MaxGen-1 {
			return word.Handle(slot, gen)
		}
	}
	return 0, api.ErrSlot
}

// P25.1, P25.4: long ways, held against the words: what is told, its number, what is there.
func TestLongWays(t *testing.T) {
	for seed := range int64(30) {
		for _, c := range configs() {
			r := rand.New(rand.NewSource(seed))
			m, _ := model.New(c.Multi)
			naive := &spoken{config: c, model: m}
			s := newStore(t, c)
			for i := range 200 {
				op := draw(r, naive.told)
				want := naive.do(op)
				if got, number := s.Do(op); !model.SameAnswer(got, want) || number != i {
					t.Fatalf("%v, seed %d: %+v: %+v, %d, not %+v, %d", c, seed, op, got, number, want, i)
				}
				if got := s.Content(); !slices.Equal(got, m.Content()) {
					t.Fatalf("%v, seed %d: %v", c, seed, got)
				}
			}
		}
	}
}

// P25.1: the same store: one behind the other it tells what the other one does, but for what Collects take out.
func TestAsTheOtherStore(t *testing.T) {
	for seed := range int64(20) {
		for _, c := range configs() {
			r := rand.New(rand.NewSource(seed))
			other, errno := store.New(c)
			if errno != api.OK {
				t.Fatal(errno)
			}
			s := newStore(t, c)
			var told []uint64
			for range 200 {
				op := draw(r, told)
				call := other.Call(op)
				step.Alone(other.Memory().View(0), call, 1<<20)
				want := call.Answer()
				if op.Kind == api.Collect {
					want.Count = 0
				}
				got, _ := s.Do(op)
				if !model.SameAnswer(got, want) {
					t.Fatalf("%v, seed %d: %+v: %+v, not %+v", c, seed, op, got, want)
				}
				if got.Handle != 0 {
					told = append(told, got.Handle)
				}
			}
			if !slices.Equal(s.Content(), other.Content()) {
				t.Fatalf("%v, seed %d: %v, not %v", c, seed, s.Content(), other.Content())
			}
		}
	}
}

// P25.4: one thread of Run is told what Do tells, one operation behind the other.
func TestOneThread(t *testing.T) {
	for seed := range int64(30) {
		for _, c := range configs() {
			r := rand.New(rand.NewSource(seed))
			s := newStore(t, c)
			var thread []api.Op
			var want []api.Answer
			var told []uint64
			for range 100 {
				op := draw(r, told)
				a, _ := s.Do(op)
				if a.Handle != 0 {
					told = append(told, a.Handle)
				}
				thread, want = append(thread, op), append(want, a)
			}
			l, order, errno := locked.Run(c, [][]api.Op{thread})
			if errno != api.OK {
				t.Fatal(errno)
			}
			checkDids(t, [][]api.Op{thread}, l, order)
			for i, d := range l {
				if !model.SameAnswer(d.Answer, want[i]) || order[i] != i || d.Span.From != 2*i || d.Span.To != 2*i+1 {
					t.Fatalf("%+v, not %+v", d, want[i])
				}
			}
		}
	}
}
