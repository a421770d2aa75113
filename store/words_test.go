package store_test

import (
	"iter"
	"math/rand"
	"reflect"
	"slices"
	"testing"

	"shutter/announce"
	"shutter/api"
	"shutter/arena"
	"shutter/cut"
	"shutter/handle"
	"shutter/step"
	"shutter/store"
	"shutter/trie"
	"shutter/walk"
)

// spoken is an operation as the chapter says it: procs of the layers below, one behind the other; it stands still ahead of each step but the first one.
type spoken struct {
	answer api.Answer
	view   *arena.View
	begun  bool
	over   bool
	pause  func(struct{}) bool
	next   func() (struct{}, bool)
}

func speak(t *testing.T, s *store.Store, multi int, op api.Op) *spoken {
	p := &spoken{}
	next, stop := iter.Pull(func(yield func(struct{}) bool) {
		defer func() { recover() }() // from the panic of one that is stopped
		p.pause = yield
		p.answer = p.words(s, multi, op)
	})
	p.next = next
	t.Cleanup(stop)
	return p
}

func (p *spoken) Step(v *arena.View) bool {
	p.view = v
	_, more := p.next()
	p.over = !more
	return !more
}

// do does a proc to its end.
func (p *spoken) do(q step.Proc) {
	for over := false; !over; {
		if p.begun && !p.pause(struct{}{}) {
			panic("stopped")
		}
		p.begun = true
		over = q.Step(p.view)
	}
}

func (p *spoken) words(s *store.Store, multi int, op api.Op) api.Answer {
	switch op.Kind {
	case api.Get:
		q := trie.NewFind(s.Tree(), op.Key)
		p.do(q)
		return q.Answer()
	case api.Put:
		q := trie.NewPut(s.Tree(), op.Key, op.Value)
		p.do(q)
		return q.Answer()
	case api.Delete:
		q := trie.NewRemove(s.Tree(), op.Key)
		p.do(q)
		return q.Answer()
	case api.Swap:
		q := trie.NewSwap(s.Tree(), op.Key, op.Old, op.Value)
		p.do(q)
		return q.Answer()
	case api.Snapshot:
		q := announce.NewSnapshot(s.Slots())
		p.do(q)
		return api.Answer{Errno: q.Errno(), Handle: q.Handle()}
	case api.Release:
		q := announce.NewRelease(s.Slots(), op.Handle)
		p.do(q)
		return failed(q.Errno())
	case api.Collect:
		q := cut.NewCollect(s.Tree(), s.Slots())
		p.do(q)
		return counted(q.Count())
	case api.MultiGet, api.Range, api.Count:
		return p.query(s, multi, op)
	}
	return failed(api.ErrOp)
}

func (p *spoken) query(s *store.Store, multi int, op api.Op) api.Answer {
	if op.Kind == api.MultiGet && len(op.Keys) > multi {
		return failed(api.ErrLong)
	}
	open := handle.NewOpen(s.Slots(), op.Handle)
	if p.do(open); open.Errno() != api.OK {
		return failed(open.Errno())
	}
	var l []api.Pair
	if op.Kind == api.MultiGet && len(op.Keys) > 0 {
		q := walk.NewGet(s.Tree(), open.Stamp(), op.Keys)
		p.do(q)
		l = q.Pairs()
	} else if op.Kind != api.MultiGet && op.Lo <= op.Hi {
		q := walk.NewRange(s.Tree(), open.Stamp(), op.Lo, op.Hi)
		p.do(q)
		l = q.Pairs()
	}
	closing := handle.NewClose(s.Slots(), op.Handle, open.Stamp())
	if p.do(closing); closing.Errno() != api.OK {
		return failed(closing.Errno())
	}
	if op.Kind == api.Count {
		return counted(uint64(len(l)))
	}
	return api.Answer{Pairs: append([]api.Pair(nil), l...)}
}

// drawOp is an operation of any kind; its handle is one that may have been told.
func drawOp(r *rand.Rand, keys []uint64) api.Op {
	key := func() uint64 { return keys[r.Intn(len(keys))] }
	value := func() uint64 { return uint64(r.Intn(3)) }
	h := uint64(r.Intn(8)+2)/3 + uint64(r.Intn(6)/4)<<16
	op := api.Op{}
	switch r.Intn(18) {
	case 0:
		op = get(key())
	case 1, 2, 3:
		op = put(key(), value())
	case 4:
		op = remove(key())
	case 5:
		op = swap(key(), value(), value())
	case 6, 7:
		op = snapshot
	case 8:
		op = release(h)
	case 9, 10, 11:
		op = multiGet(h)
		for range r.Intn(8) * r.Intn(8) / 9 {
			op.Keys = append(op.Keys, key())
		}
	case 12, 13:
		op = rangeOf(h, key(), key())
		if r.Intn(3) > 0 {
			op.Lo, op.Hi = 0, greatest
		}
	case 14:
		op = countOf(h, 0, greatest)
	case 15, 16:
		op = collect
	default:
		op = api.Op{Kind: api.OpKind(10 + r.Intn(3)), Handle: h}
	}
	return op
}

// drawKeys are keys some of whose ways go together for a while.
func drawKeys(t *testing.T, r *rand.Rand) []uint64 {
	return []uint64{keyOf(t, r.Intn(2)), keyOf(t, r.Intn(2), 1), keyOf(t, r.Intn(2), 1, 2), keyOf(t, r.Intn(2), 3), 7}
}

// P16.2: by any threads and picks, an operation makes the accesses that the chapter says, in the same steps, and tells the same; nothing, as long as it is not done.
func TestAsTheChapterSays(t *testing.T) {
	kinds := map[api.OpKind]int{}
	errnos := map[api.Errno]int{}
	for seed := range int64(500) {
		r := rand.New(rand.NewSource(seed))
		c := api.Config{Cells: 3000, Slots: 1 + r.Intn(3), Stamps: 100, Multi: 1 + r.Intn(4)}
		if seed%4 == 0 {
			c.Cells, c.Stamps = 128+r.Intn(200), uint64(1+r.Intn(6))
		}
		keys := drawKeys(t, r)
		a, b := newStore(t, c), newStore(t, c)
		threads := 1 + r.Intn(3)
		procs, words := make([][]step.Proc, threads), make([][]step.Proc, threads)
		type pair struct {
			kind  api.OpKind
			call  *store.Call
			words *spoken
		}
		var pairs []pair
		for range 24 {
			op, i := drawOp(r, keys), r.Intn(threads)
			p, w := a.Call(op), speak(t, b, c.Multi, op)
			procs[i], words[i] = append(procs[i], p), append(words[i], w)
			pairs = append(pairs, pair{op.Kind, p, w})
		}
		m, _ := step.New(a.Memory(), procs)
		n, _ := step.New(b.Memory(), words)
		for !m.Done() || !n.Done() {
			thread := r.Intn(threads)
			for range 1 + r.Intn(3)*r.Intn(9) {
				if m.Pick(thread) != n.Pick(thread) {
					t.Fatal("seed", seed, "one of the two is done")
				}
			}
			for _, pair := range pairs {
				want := api.Answer{}
				if pair.words.over {
					want = pair.words.answer
				}
				if got := pair.call.Answer(); !reflect.DeepEqual(got, want) {
					t.Fatalf("seed %d: an operation of the kind %d tells %+v, not %+v", seed, pair.kind, got, want)
				}
			}
		}
		if !reflect.DeepEqual(a.Memory().Trace(), b.Memory().Trace()) || !reflect.DeepEqual(m.Events(), n.Events()) {
			t.Fatal("seed", seed, "the steps differ")
		}
		if !slices.Equal(a.Content(), b.Content()) {
			t.Fatal("seed", seed, a.Content(), b.Content())
		}
		for _, pair := range pairs {
			if a := pair.call.Answer(); a.Errno == api.OK {
				kinds[pair.kind]++
			} else {
				errnos[a.Errno]++
			}
		}
	}
	for kind := api.Get; kind <= api.Collect; kind++ {
		if kinds[kind] < 60 {
			t.Error("too few of the kind", kind, kinds)
		}
	}
	for _, errno := range []api.Errno{api.ErrMemory, api.ErrStamp, api.ErrSlot, api.ErrHandle, api.ErrStale, api.ErrLong, api.ErrOp} {
		if errnos[errno] < 10 {
			t.Error("too few of the error", errno, errnos)
		}
	}
}
