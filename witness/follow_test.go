package witness_test

import (
	"math"
	"math/rand"
	"reflect"
	"slices"
	"strconv"
	"testing"

	"shutter/api"
	"shutter/arena"
	"shutter/hist"
	"shutter/lin"
	"shutter/mix"
	"shutter/model"
	"shutter/script"
	"shutter/step"
	"shutter/store"
	"shutter/witness"
)

// later is a call whose Ref is looked up when it begins.
type later struct {
	store *store.Store
	calls [][]*later
	op    api.Op
	call  *store.Call
	over  bool
}

func (p *later) Step(v *arena.View) bool {
	if p.call == nil {
		if ref := p.op.Ref; ref.Set && ref.Thread < len(p.calls) && ref.Index < len(p.calls[ref.Thread]) {
			if named := p.calls[ref.Thread][ref.Index]; named.over {
				p.op.Handle = named.call.Answer().Handle
			}
		}
		p.call = p.store.Call(p.op)
	}
	p.over = p.call.Step(v)
	return p.over
}

// doing is a script that is done step by step, so that what is there can be asked for.
type doing struct {
	store  *store.Store
	runner *step.Runner
	calls  [][]*later
}

func begin(t *testing.T, s api.Script) *doing {
	t.Helper()
	made, errno := store.New(s.Config)
	if errno != api.OK {
		t.Fatal(errno)
	}
	d := &doing{store: made, calls: make([][]*later, len(s.Threads))}
	procs := make([][]step.Proc, len(s.Threads))
	for i, ops := range s.Threads {
		for _, op := range ops {
			p := &later{store: made, calls: d.calls, op: op}
			d.calls[i] = append(d.calls[i], p)
			procs[i] = append(procs[i], p)
		}
	}
	if d.runner, errno = step.New(made.Memory(), procs); errno != api.OK {
		t.Fatal(errno)
	}
	return d
}

// left are the threads that have calls that have not returned.
func (d *doing) left() []int {
	var l []int
	for thread, calls := range d.calls {
		if len(calls) > 0 && !calls[len(calls)-1].over {
			l = append(l, thread)
		}
	}
	return l
}

// guesses tells whether an operation names a handle that a Snapshot told that it overlaps.
func guesses(l []api.Did) bool {
	for _, a := range l {
		if a.Op.Handle == 0 || a.Op.Kind < api.Release || a.Op.Kind > api.Count {
			continue
		}
		for _, b := range l {
			if b.Op.Kind == api.Snapshot && b.Answer.Handle == a.Op.Handle && !hist.Ahead(a.Span, b.Span) && !hist.Ahead(b.Span, a.Span) {
				return true
			}
		}
	}
	return false
}

// checkFollows checks what follows of a script that was done, and in which none guesses; content is what is there behind it, if all calls have returned.
func checkFollows(t *testing.T, c api.Config, r api.Result, content []api.Pair) {
	t.Helper()
	order, errno := witness.Order(c, r)
	if errno != api.OK {
		t.Fatal(errno)
	}
	if errno := lin.Witness(r.Dids, order, c.Multi); errno != api.OK {
		t.Fatalf("the order %d does not show (%d)\n%+v", order, errno, r.Dids)
	}
	checkPoints(t, c, r)
	checkStamps(t, c, r)
	checkHandles(t, c, r, order)
	if slices.ContainsFunc(r.Dids, func(d api.Did) bool { return d.Span.To < 0 }) {
		return
	}
	m, _ := model.New(c.Multi)
	for _, i := range order {
		m.Take(r.Dids[i].Op, r.Dids[i].Answer)
	}
	if got := m.Content(); !slices.Equal(got, content) {
		t.Fatalf("the order leaves %v, but there is %v\n%+v", got, content, r.Dids)
	}
}

// P18.4: each point lies from the Did's From to its To.
func checkPoints(t *testing.T, c api.Config, r api.Result) {
	t.Helper()
	points, errno := witness.Points(c, r)
	if errno != api.OK || len(points) != len(r.Dids) {
		t.Fatal(errno, len(points))
	}
	for i, d := range r.Dids {
		p := points[i]
		if !p.Some && (d.Span.To >= 0 || p != witness.Point{}) {
			t.Fatalf("%+v has the point %+v", d, p)
		}
		if p.Some && (p.Step < d.Span.From || d.Span.To >= 0 && p.Step > d.Span.To || p.Rank < 0 || p.Rank > 1) {
			t.Fatalf("%+v has the point %+v", d, p)
		}
	}
}

// P18.5: of one object stamps do not fall, and were read behind the installation and ahead of the next one; they are what the camera held.
func checkStamps(t *testing.T, c api.Config, r api.Result) {
	t.Helper()
	stamps, errno := witness.Stamps(c, r)
	if errno != api.OK {
		t.Fatal(errno)
	}
	camera := map[int]uint64{} // what it held, by steps at which it was read
	object := map[int]uint64{} // by steps at which one was changed
	for i, a := range r.Trace {
		if a.Kind == api.Load && a.Addr == 1 {
			camera[r.Steps[i]] = a.Got
		}
		if a.Kind == api.Cas {
			object[r.Steps[i]] = a.Addr
		}
	}
	last := map[uint64]witness.Stamp{} // by objects
	for _, s := range stamps {
		ahead, known := last[object[s.Installed]]
		if known && (ahead.Read < 0 || ahead.Read <= ahead.Installed || ahead.Read >= s.Installed) {
			t.Fatalf("%+v, and then %+v", ahead, s)
		}
		if s.Read >= 0 && (s.Read <= s.Installed || s.Stamp != camera[s.Read] || known && s.Stamp < ahead.Stamp) {
			t.Fatalf("%+v, and then %+v, when the camera held %d", ahead, s, camera[s.Read])
		}
		last[object[s.Installed]] = s
	}
}

// P18.6 (E2): what a handle's queries told is what the changes with stamps not above its own leave, in the order.
func checkHandles(t *testing.T, c api.Config, r api.Result, order []int) {
	t.Helper()
	stamps, _ := witness.Stamps(c, r)
	changed := map[int]uint64{} // by numbers of Dids: the stamp of the version that it installed
	for _, s := range stamps {
		for i, d := range r.Dids {
			at := slices.Index(r.Steps, s.Installed)
			if r.Trace[at].Thread == d.Span.Thread && d.Span.From <= s.Installed && (d.Span.To < 0 || s.Installed <= d.Span.To) && s.Read >= 0 {
				changed[i] = s.Stamp
			}
		}
	}
	for _, d := range r.Dids {
		if d.Op.Kind != api.Snapshot || d.Answer.Handle == 0 {
			continue
		}
		var own uint64 // the stamp
		for i, a := range r.Trace {
			if a.Thread == d.Span.Thread && d.Span.From <= r.Steps[i] && r.Steps[i] <= d.Span.To && a.Kind == api.Load && a.Addr == 1 {
				own = a.Got
			}
		}
		m, _ := model.New(c.Multi)
		for _, i := range order {
			if stamp, ok := changed[i]; ok && stamp <= own {
				m.Do(r.Dids[i].Op, 0)
			}
		}
		m.Do(api.Op{Kind: api.Snapshot}, d.Answer.Handle)
		for _, q := range r.Dids {
			if q.Op.Handle == d.Answer.Handle && q.Op.Kind >= api.MultiGet && q.Span.To >= 0 && q.Answer.Errno == api.OK && !m.Take(q.Op, q.Answer) {
				t.Fatalf("%+v told something else than %+v", q, m.Content())
			}
		}
	}
}

// allPicks does a script by all picks there are, behind its own, that go at most so many times from one thread, that could have gone on, to another.
func allPicks(t *testing.T, switches int, s api.Script, each func(s api.Script, d *doing)) {
	t.Helper()
	first := len(s.Picks)
	var walk func(picks []int, switched int)
	walk = func(picks []int, switched int) {
		d := begin(t, s)
		d.runner.Run(picks)
		for l := d.left(); len(l) > 0; l = d.left() {
			next, more := l[0], switched
			if len(picks) > first && slices.Contains(l, picks[len(picks)-1]) {
				next = picks[len(picks)-1]
				more++
			}
			for _, thread := range l {
				if thread != next && more <= switches {
					walk(append(slices.Clone(picks), thread), more)
				}
			}
			picks = append(picks[:len(picks):len(picks)], next)
			d.runner.Pick(next)
		}
		each(api.Script{Config: s.Config, Threads: s.Threads, Picks: picks}, d)
	}
	walk(s.Picks, 0)
}

// P18.3 to P18.6, P16.7: all orders of steps of small scripts, as far as threads are switched not too often; the first thread is done ahead.
func TestAllPicks(t *testing.T) {
	for i, c := range []struct {
		switches int
		lines    []string
	}{
		{4, []string{"thread", "thread", "put 7 1", "thread", "put 7 2"}},
		{2, []string{"thread", "put 7 1", "thread", "swap 7 1 2", "thread", "swap 7 1 3", "thread", "get 7"}},
		{2, []string{"thread", "put 7 1", "thread", "put 7 2", "get 7", "thread", "delete 7", "thread", "get 7", "get 7"}},
		{3, []string{"thread", "put 7 1", "thread", "put 7 2", "thread", "snapshot", "multiget @2.0 7"}},
		{2, []string{"thread", "put 7 1", "thread", "put 7 2", "thread", "snapshot", "multiget @2.0 7", "thread", "snapshot", "multiget @3.0 7"}},
		{3, []string{"thread", "put 7 1", "snapshot", "thread", "put 7 2", "release @0.1", "thread", "multiget @0.1 7"}},
		{3, []string{"thread", "snapshot", "thread", "release @0.0", "snapshot", "thread", "release @0.0", "multiget @1.1"}},
		{1, []string{"thread", "put 7 1", "thread", "snapshot", "put 7 2", "multiget @1.0 7", "thread", "collect"}},
		{1, []string{"thread", "put 7 1", "snapshot", "put 7 2", "thread", "release @0.1", "collect", "thread", "range @0.1 0 9", "get 7"}},
	} {
		t.Run(strconv.Itoa(i), func(t *testing.T) {
			t.Parallel()
			s := parse(t, c.lines...)
			d := begin(t, s)
			for d.runner.Pick(0) {
				s.Picks = append(s.Picks, 0)
			}
			runs := 0
			allPicks(t, c.switches, s, func(s api.Script, d *doing) {
				runs++
				r := run(t, s)
				if guesses(r.Dids) {
					t.Fatal("who has a handle by a Ref does not guess")
				}
				checkFollows(t, s.Config, r, d.store.Content())
			})
			if runs < 50 {
				t.Error("too few runs:", runs)
			}
		})
	}
}

// drawScript is a drawn script in which there are more Puts, more Refs name Snapshots (of the same thread more often than of others), some handles are told as they are, and picks stay with a thread for a while.
func drawScript(t *testing.T, seed int64) api.Script {
	t.Helper()
	r := rand.New(rand.NewSource(seed))
	c := api.Config{Cells: 1 << 13, Slots: 1 + r.Intn(4), Stamps: 1000, Multi: 1 + r.Intn(4)}
	switch r.Intn(6) {
	case 0:
		c.Cells = 128 + r.Intn(300)
	case 1:
		c.Stamps = uint64(1 + r.Intn(5))
	}
	s, errno := script.Draw(uint64(seed), c, 1+r.Intn(4), 1+r.Intn(16), 0)
	if errno != api.OK {
		t.Fatal(errno)
	}
	var all []api.Ref
	for thread, ops := range s.Threads {
		var own []api.Ref
		for index := range ops {
			op := &ops[index]
			switch n := r.Intn(4); {
			case n == 0:
				*op = api.Op{Kind: api.Put, Key: mix.Back(uint64(r.Intn(5)) << (6 * r.Intn(3))), Value: r.Uint64()}
			case len(own) == 0 && n > 1 || op.Kind == api.Collect && n > 1:
				*op = api.Op{Kind: api.Snapshot}
			}
			refs := all
			if r.Intn(3) > 0 {
				refs = own
			}
			switch {
			case op.Kind == api.Snapshot:
				ref := api.Ref{Set: true, Thread: thread, Index: index}
				all, own = append(all, ref), append(own, ref)
			case op.Kind < api.Release || op.Kind > api.Count:
			case r.Intn(9) == 0:
				op.Ref, op.Handle = api.Ref{}, uint64(1+r.Intn(3)+r.Intn(2)<<16)
			case len(refs) > 0:
				op.Ref = refs[r.Intn(len(refs))]
			}
		}
	}
	for range 10 + r.Intn(60*len(s.Threads[0])) {
		s.Picks = append(s.Picks, times(r.Intn(len(s.Threads)+1), 1+r.Intn(4)*r.Intn(4))...)
	}
	return s
}

// P18.3 to P18.6, P16.7 (E1, E2): drawn scripts, whatever the picks are.
func TestDrawnScripts(t *testing.T) {
	shown, whole, pairs, behind := 0, 0, 0, 0
	for seed := range int64(2000) {
		s := drawScript(t, seed)
		r := run(t, s)
		if guesses(r.Dids) {
			continue
		}
		shown++
		d := begin(t, s)
		d.runner.Run(s.Picks)
		if d.runner.Done() {
			whole++
		}
		checkFollows(t, s.Config, r, d.store.Content())
		order, _ := witness.Order(s.Config, r)
		if !slices.IsSorted(order) {
			behind++
		}
		for _, did := range r.Dids {
			pairs += len(did.Answer.Pairs)
		}
	}
	if shown < 1500 || whole < 500 || whole > shown-500 || pairs < 200 || behind < 500 {
		t.Error("too little has come up:", shown, whole, pairs, behind)
	}
}

// P18.3 (E1, E3): what script.Draw makes, as it is, and without its Collects.
func TestScriptsOfDraw(t *testing.T) {
	for seed := range uint64(1000) {
		s, errno := script.Draw(seed, config, 1+int(seed%5), 1+int(seed%9), 20*int(seed%30))
		if errno != api.OK {
			t.Fatal(errno)
		}
		less, errno := script.Without(s)
		if errno != api.OK {
			t.Fatal(errno)
		}
		for _, s := range []api.Script{s, less} {
			r := run(t, s)
			if guesses(r.Dids) {
				t.Fatal("who has a handle by a Ref does not guess")
			}
			d := begin(t, s)
			d.runner.Run(s.Picks)
			checkFollows(t, s.Config, r, d.store.Content())
		}
	}
}

// P16.3, P18.3: a long script of many threads: all accesses are looked at, and no more often than needed.
func TestLongScript(t *testing.T) {
	c := api.Config{Cells: 1 << 18, Slots: 64, Stamps: 1 << 20, Multi: 4}
	s, errno := script.Draw(1, c, api.MaxThreads, api.MaxDraw, 200000)
	if errno != api.OK {
		t.Fatal(errno)
	}
	r := run(t, s)
	order, errno := witness.Order(c, r)
	if errno != api.OK || lin.Witness(r.Dids, order, c.Multi) != api.OK {
		t.Error(errno, len(order), len(r.Dids))
	}
	if !reflect.DeepEqual(s, func() api.Script { s, _ := script.Draw(1, c, api.MaxThreads, api.MaxDraw, 200000); return s }()) {
		t.Error("the script has changed")
	}
}

// P18.3: a picture of all that is there, behind everything, is what the order leaves.
func TestLastPicture(t *testing.T) {
	for seed := range uint64(300) {
		s, errno := script.Draw(seed, config, 3, 4, 400)
		if errno != api.OK {
			t.Fatal(errno)
		}
		// Slots are let go one by one, as far as they hold, so that there is one.
		last := []api.Op{{Kind: api.Release, Handle: 1}, {Kind: api.Release, Handle: 2}, {Kind: api.Release, Handle: 1 + 1<<16}, {Kind: api.Snapshot}}
		last = append(last, api.Op{Kind: api.Range, Ref: api.Ref{Set: true, Thread: 3, Index: 3}, Hi: math.MaxUint64})
		s.Threads = append(s.Threads, last)
		for thread := range 3 {
			s.Picks = append(s.Picks, times(thread, 3000)...)
		}
		s.Picks = append(s.Picks, times(3, 3000)...)
		d := begin(t, s)
		d.runner.Run(s.Picks)
		r := run(t, s)
		did := r.Dids[len(r.Dids)-1]
		if did.Op.Kind != api.Range || did.Span.To < 0 {
			t.Fatalf("%+v", did)
		}
		if got := d.store.Content(); did.Answer.Errno == api.OK && !slices.Equal(got, did.Answer.Pairs) {
			t.Fatalf("seed %d: %v, not %v", seed, got, did.Answer.Pairs)
		}
		checkFollows(t, s.Config, r, d.store.Content())
	}
}
