package store_test

import (
	"math/rand"
	"reflect"
	"slices"
	"strconv"
	"sync"
	"sync/atomic"
	"testing"

	"shutter/api"
	"shutter/hist"
	"shutter/lin"
	"shutter/model"
	"shutter/step"
	"shutter/store"
)

// guesses tells whether an operation names a handle that a Snapshot told that it overlaps.
func guesses(l []api.Did) bool {
	for _, a := range l {
		if a.Op.Handle == 0 || a.Op.Kind < api.Release || a.Op.Kind > api.Count {
			continue
		}
		for _, b := range l {
			if b.Op.Kind == api.Snapshot && b.Answer.Handle == a.Op.Handle && !hist.Ahead(a.Span, b.Span) && !hist.Ahead(b.Span, a.Span) {
				return true
			}
		}
	}
	return false
}

// checkFollows checks P16.4, P16.5 and P16.7 of a script that was done; false, if an operation guesses.
func checkFollows(t *testing.T, c api.Config, r api.Result, content []api.Pair) bool {
	t.Helper()
	for _, d := range r.Dids {
		checkForm(t, c, d)
	}
	if guesses(r.Dids) {
		return false
	}
	order := orderOf(r)
	if errno := lin.Witness(r.Dids, order, c.Multi); errno != api.OK {
		t.Fatalf("the order %d does not show (%d)\n%+v", order, errno, r.Dids)
	}
	m, _ := model.New(c.Multi)
	pending := false
	for _, i := range order {
		d := r.Dids[i]
		if d.Span.To < 0 {
			m.Do(d.Op, 0)
		} else {
			m.Take(d.Op, d.Answer)
		}
	}
	for _, d := range r.Dids {
		pending = pending || d.Span.To < 0
	}
	if got := m.Content(); !pending && !slices.Equal(got, content) {
		t.Fatalf("the order leaves %v, but there is %v\n%+v", got, content, r.Dids)
	}
	checkOneMap(t, r.Dids)
	return true
}

// checkForm checks that an answer has nothing in it that the document's table does not name (P2).
func checkForm(t *testing.T, c api.Config, d api.Did) {
	t.Helper()
	a, want := d.Answer, api.Answer{Errno: d.Answer.Errno}
	if d.Span.To >= 0 && a.Errno == api.OK {
		switch d.Op.Kind {
		case api.Get, api.Put, api.Delete:
			want.Found = a.Found
		case api.Swap:
			want.Found, want.Done = a.Found, a.Done && a.Found
		case api.Snapshot:
			want.Handle = a.Handle
		case api.MultiGet, api.Range:
			want.Pairs = a.Pairs
		case api.Count, api.Collect:
			want.Count = a.Count
		}
		if want.Found {
			want.Value = a.Value
		}
	}
	if d.Span.To < 0 {
		want = api.Answer{}
	}
	if !reflect.DeepEqual(a, want) || d.Op.Ref != (api.Ref{}) {
		t.Fatalf("%+v", d)
	}
}

// checkOneMap checks P16.5, by what is told alone: of no handle two queries tell unlike things of a key.
func checkOneMap(t *testing.T, l []api.Did) {
	t.Helper()
	type place struct{ handle, key uint64 }
	type seen struct {
		there bool
		value uint64
	}
	known := map[place]seen{}
	say := func(handle, key uint64, pairs []api.Pair) {
		i := slices.IndexFunc(pairs, func(p api.Pair) bool { return p.Key == key })
		now := seen{there: i >= 0}
		if now.there {
			now.value = pairs[i].Value
		}
		if ahead, ok := known[place{handle, key}]; ok && ahead != now {
			t.Fatalf("the handle %d: the key %d is %+v, and then %+v", handle, key, ahead, now)
		}
		known[place{handle, key}] = now
	}
	for _, d := range l {
		if d.Span.To < 0 || d.Answer.Errno != api.OK {
			continue
		}
		switch d.Op.Kind {
		case api.MultiGet:
			for _, key := range d.Op.Keys {
				say(d.Op.Handle, key, d.Answer.Pairs)
			}
		case api.Range:
			for _, p := range d.Answer.Pairs {
				say(d.Op.Handle, p.Key, d.Answer.Pairs)
			}
			for at := range known {
				if at.handle == d.Op.Handle && d.Op.Lo <= at.key && at.key <= d.Op.Hi {
					say(at.handle, at.key, d.Answer.Pairs)
				}
			}
		}
	}
}

// allPicks does a script by all picks there are, behind its own, that go at most so many times from one thread, that could have gone on, to another; it tells what comes of each.
func allPicks(t *testing.T, switches int, s api.Script, each func(s api.Script, r api.Result, content []api.Pair)) {
	t.Helper()
	first := len(s.Picks)
	var walk func(picks []int, switched int)
	walk = func(picks []int, switched int) {
		d := begin(t, s)
		d.runner.Run(picks)
		for l := d.left(); len(l) > 0; l = d.left() {
			next, more := l[0], switched
			if len(picks) > first && slices.Contains(l, picks[len(picks)-1]) {
				next = picks[len(picks)-1]
				more++
			}
			for _, thread := range l {
				if thread != next && more <= switches {
					walk(append(slices.Clone(picks), thread), more)
				}
			}
			picks = append(picks[:len(picks):len(picks)], next)
			d.runner.Pick(next)
		}
		each(api.Script{Config: s.Config, Threads: s.Threads, Picks: picks}, d.result(t), d.store.Content())
	}
	walk(s.Picks, 0)
}

func byRef(op api.Op, thread, index int) api.Op {
	op.Ref = refTo(thread, index)
	return op
}

// P16.4 to P16.7: all orders of steps of small scripts, as far as threads are switched not too often; the first list is done ahead.
func TestAllPicks(t *testing.T) {
	a, b := keyOf(t, 0), keyOf(t, 0, 1)
	for i, c := range []struct {
		switches int
		threads  [][]api.Op
	}{
		{4, [][]api.Op{nil, {put(a, 1)}, {put(a, 2)}}},
		{4, [][]api.Op{{put(a, 1)}, {swap(a, 1, 2)}, {swap(a, 1, 3)}}},
		{3, [][]api.Op{{put(a, 1)}, {put(b, 2), get(a)}, {remove(a)}}},
		{2, [][]api.Op{{put(a, 1)}, {put(a, 2), get(a)}, {remove(a)}, {get(a), get(a)}}},
		{3, [][]api.Op{{put(a, 1)}, {put(a, 2)}, {snapshot, byRef(multiGet(0, a), 2, 0)}}},
		{3, [][]api.Op{{put(a, 1)}, {put(a, 2), put(b, 2)}, {snapshot, byRef(multiGet(0, b, a), 2, 0)}}},
		{3, [][]api.Op{{put(a, 1), snapshot}, {put(a, 2), byRef(release(0), 0, 1)}, {byRef(multiGet(0, a), 0, 1)}}},
		{3, [][]api.Op{{snapshot}, {byRef(release(0), 0, 0), snapshot}, {byRef(release(0), 0, 0), byRef(multiGet(0), 1, 1)}}},
		{1, [][]api.Op{{put(a, 1)}, {snapshot, put(a, 2), byRef(multiGet(0, a), 1, 0)}, {collect}}},
		{1, [][]api.Op{{put(a, 1)}, {snapshot, byRef(multiGet(0, a), 1, 0)}, {put(a, 2)}, {collect}}},
		{1, [][]api.Op{{put(a, 1), snapshot, put(a, 2)}, {byRef(release(0), 0, 1), collect}, {byRef(multiGet(0, a), 0, 1), get(a)}}},
		{1, [][]api.Op{{put(a, 1), snapshot, put(b, 2)}, {byRef(rangeOf(0, 0, greatest), 0, 1)}, {put(a, 3), collect}}},
	} {
		t.Run(strconv.Itoa(i), func(t *testing.T) {
			t.Parallel()
			config := api.Config{Cells: 600, Slots: 2, Stamps: 100, Multi: 4}
			script := api.Script{Config: config, Threads: c.threads}
			d := begin(t, script)
			for d.runner.Pick(0) {
				script.Picks = append(script.Picks, 0)
			}
			runs := 0
			allPicks(t, c.switches, script, func(s api.Script, r api.Result, content []api.Pair) {
				if runs++; !checkFollows(t, config, r, content) {
					t.Fatal("who has a handle by a Ref does not guess")
				}
				if runs%17 == 0 {
					if got := run(t, s); !reflect.DeepEqual(plain(got), plain(r)) {
						t.Fatalf("%+v comes to %+v", s, got)
					}
				}
			})
			if runs < 50 {
				t.Error("too few runs:", runs)
			}
		})
	}
}

// drawScript has operations of all kinds, with handles by Refs (to Snapshots of the same thread more often than of others) or as they are, and picks that stay with a thread for a while.
func drawScript(t *testing.T, r *rand.Rand, c api.Config, calls int) api.Script {
	keys := drawKeys(t, r)
	s := api.Script{Config: c, Threads: make([][]api.Op, 1+r.Intn(4))}
	var all []api.Ref
	own := make([][]api.Ref, len(s.Threads))
	for range calls {
		i := r.Intn(len(s.Threads))
		op := drawOp(r, keys)
		refs := all
		if r.Intn(3) > 0 {
			refs = own[i]
		}
		if op.Kind >= api.Release && op.Kind <= api.Count && len(refs) > 0 && r.Intn(8) > 0 {
			op.Ref = refs[len(refs)-1-r.Intn(min(len(refs), 2))]
		}
		if op.Kind == api.Snapshot {
			ref := refTo(i, len(s.Threads[i]))
			all, own[i] = append(all, ref), append(own[i], ref)
		}
		s.Threads[i] = append(s.Threads[i], op)
	}
	for range 40 * calls {
		thread := r.Intn(len(s.Threads))
		s.Picks = append(s.Picks, times(thread, 1+r.Intn(4)*r.Intn(4))...)
	}
	return s
}

// P16.3 to P16.7: drawn scripts of many operations, with memory and stamps that last, or not.
func TestDrawnScripts(t *testing.T) {
	errnos := map[api.Errno]int{}
	shows, whole, pairs := 0, 0, 0
	for seed := range int64(1500) {
		r := rand.New(rand.NewSource(seed))
		c := api.Config{Cells: 1 << 14, Slots: 1 + r.Intn(4), Stamps: 1000, Multi: 1 + r.Intn(4)}
		switch seed % 5 {
		case 0:
			c.Cells = 128 + r.Intn(300)
		case 1:
			c.Stamps = uint64(1 + r.Intn(6))
		}
		s := drawScript(t, r, c, 10+r.Intn(50))
		if r.Intn(3) == 0 {
			s.Picks = s.Picks[:r.Intn(len(s.Picks)/4)]
		}
		d := begin(t, s)
		d.runner.Run(s.Picks)
		got := checkSame(t, s, d)
		if checkFollows(t, c, got, d.store.Content()) {
			shows++
		}
		if d.runner.Done() {
			whole++
		}
		for _, did := range got.Dids {
			errnos[did.Answer.Errno]++
			pairs += len(did.Answer.Pairs)
		}
	}
	if shows < 1000 || whole < 700 || whole > 1300 || pairs < 1000 {
		t.Error("too little has come up:", shows, whole, pairs)
	}
	for _, errno := range []api.Errno{api.ErrMemory, api.ErrStamp, api.ErrSlot, api.ErrHandle, api.ErrStale, api.ErrLong, api.ErrOp} {
		if errnos[errno] < 20 {
			t.Error("too few of the error", errno, errnos)
		}
	}
}

// P16.4: of short scripts, a search finds an order, whatever was said of points.
func TestDrawnScriptsBySearch(t *testing.T) {
	searched := 0
	for seed := range int64(1500) {
		r := rand.New(rand.NewSource(seed))
		c := api.Config{Cells: 1 << 12, Slots: 1 + r.Intn(3), Stamps: 100, Multi: 4}
		s := drawScript(t, r, c, 4+r.Intn(9))
		s.Picks = s.Picks[:r.Intn(len(s.Picks))]
		got := run(t, s)
		if guesses(got.Dids) || len(got.Dids) == 0 {
			continue
		}
		if _, errno := lin.Find(got.Dids, c.Multi); errno != api.OK {
			t.Fatalf("seed %d: %d\n%+v", seed, errno, got.Dids)
		}
		searched++
	}
	if searched < 1000 {
		t.Error("too few:", searched)
	}
}

// P16.2, P16.5: one behind the other, operations tell what the model tells; and the same without the Collects (E3).
func TestOneBehindTheOther(t *testing.T) {
	for seed := range int64(200) {
		r := rand.New(rand.NewSource(seed))
		keys := drawKeys(t, r)
		c := api.Config{Cells: 1 << 14, Slots: 1 + r.Intn(3), Stamps: 1000, Multi: 1 + r.Intn(4)}
		s, without := newStore(t, c), newStore(t, c)
		m, _ := model.New(c.Multi)
		for range 60 {
			op := drawOp(r, keys)
			if handles := m.Handles(); len(handles) > 0 && r.Intn(2) == 0 {
				op.Handle = handles[r.Intn(len(handles))]
			}
			a := tell(t, s, op)
			if a.Errno == api.ErrStale || a.Errno == api.ErrMemory || !m.Take(op, a) {
				t.Fatalf("seed %d: %+v tells %+v", seed, op, a)
			}
			if full := len(m.Handles()) == c.Slots; a.Errno == api.ErrSlot && !full {
				t.Fatalf("seed %d: no slot, but %d hold", seed, m.Handles())
			}
			if !slices.Equal(m.Content(), s.Content()) {
				t.Fatalf("seed %d: %v, not %v", seed, s.Content(), m.Content())
			}
			if op.Kind != api.Collect {
				if b := tell(t, without, op); !reflect.DeepEqual(a, b) {
					t.Fatalf("seed %d: %+v tells %+v; without Collects %+v", seed, op, a, b)
				}
			}
		}
	}
}

// P16.6: whatever is asked for, of whatever handles, by whatever picks, comes to its end, in a bounded number of picks; Snapshot and Release by few (E5).
func TestEveryScriptEnds(t *testing.T) {
	for seed := range int64(200) {
		r := rand.New(rand.NewSource(seed))
		c := api.Config{Cells: 128 + r.Intn(1000), Slots: 1 + r.Intn(20), Stamps: uint64(1 + r.Intn(9)), Multi: 1 + r.Intn(3)}
		s := drawScript(t, r, c, 30)
		for i, ops := range s.Threads {
			for j := range ops {
				op := &s.Threads[i][j]
				if r.Intn(3) == 0 {
					op.Handle, op.Ref = r.Uint64()>>r.Intn(64), api.Ref{Set: r.Intn(2) == 0, Thread: r.Intn(9) - 2, Index: r.Intn(9) - 2}
				}
				if r.Intn(6) == 0 {
					op.Kind = api.OpKind(r.Intn(256))
				}
			}
		}
		d := begin(t, s)
		if !d.runner.Finish(1 << 20) {
			t.Fatal("seed", seed, "is not done")
		}
		r2 := d.result(t)
		for _, did := range r2.Dids {
			steps := 0
			for i, a := range r2.Trace {
				if a.Thread == did.Span.Thread && r2.Steps[i] >= did.Span.From && r2.Steps[i] <= did.Span.To {
					steps++
				}
			}
			if did.Op.Kind == api.Snapshot && steps > 2*c.Slots+5 || did.Op.Kind == api.Release && steps > 2 {
				t.Fatalf("%+v took %d steps", did, steps)
			}
		}
		checkFollows(t, c, r2, d.store.Content())
	}
}

// P16.6: behind ErrMemory, at whatever access it came, all keys are as they were, and what needs no memory goes on.
func TestNoMemoryAtAnyAccess(t *testing.T) {
	a, b := keyOf(t, 0), keyOf(t, 0, 0, 1)
	for cells := 128; cells < 240; cells++ {
		s := newStore(t, api.Config{Cells: cells, Slots: 1, Stamps: 9, Multi: 2})
		m, _ := model.New(2)
		short := false
		for _, op := range []api.Op{put(a, 1), put(b, 2), snapshot, swap(a, 1, 3), remove(b), put(a, 4)} {
			answer := tell(t, s, op)
			short = short || answer.Errno == api.ErrMemory
			if !m.Take(op, answer) || answer.Errno != api.OK && answer.Errno != api.ErrMemory {
				t.Fatalf("%d cells: %+v tells %+v", cells, op, answer)
			}
			if !slices.Equal(s.Content(), m.Content()) {
				t.Fatalf("%d cells: %v, not %v", cells, s.Content(), m.Content())
			}
		}
		if short != (cells < 227) {
			t.Errorf("%d cells are short: %t", cells, short)
		}
		for _, op := range []api.Op{get(a), get(b), multiGet(1, a, b), rangeOf(1, 0, greatest), countOf(1, 0, greatest), collect, multiGet(1, b, a), release(1), snapshot} {
			if answer := tell(t, s, op); answer.Errno != api.OK || !m.Take(op, answer) {
				t.Fatalf("%d cells: %+v tells %+v", cells, op, answer)
			}
		}
	}
}

// P16.4: by goroutines over a live store: what they tell, with tickets for steps, is shown by some order.
func TestLive(t *testing.T) {
	const threads, calls = 4, 4
	for seed := range int64(300) {
		r := rand.New(rand.NewSource(seed))
		s, errno := store.NewLive(api.Config{Cells: 4096, Slots: 3, Stamps: 1000, Multi: 4})
		if errno != api.OK {
			t.Fatal(errno)
		}
		keys := drawKeys(t, r)[:2]
		var ops [threads][calls]api.Op
		for i := range ops {
			for j := range ops[i] {
				ops[i][j] = drawOp(r, keys)
			}
		}
		var tickets atomic.Int64
		var dids [threads][calls]api.Did
		var wait sync.WaitGroup
		for i := range threads {
			wait.Go(func() {
				v := s.Memory().View(i)
				handle := uint64(0)
				for j, op := range ops[i] {
					// Its own handle alone: so it does not guess.
					op.Handle = handle
					from := int(tickets.Add(1))
					p := s.Call(op)
					step.Alone(v, p, 1<<20)
					a := p.Answer()
					dids[i][j] = api.Did{Span: api.Span{Thread: i, Index: j, From: from, To: int(tickets.Add(1))}, Op: op, Answer: a}
					if a.Handle != 0 {
						handle = a.Handle
					}
				}
			})
		}
		wait.Wait()
		l := slices.Concat(dids[0][:], dids[1][:], dids[2][:], dids[3][:])
		if _, errno := lin.Find(l, 4); errno != api.OK {
			t.Fatalf("%d: %+v", errno, l)
		}
	}
}
