package live_test

import (
	"runtime"
	"slices"
	"testing"

	"shutter/api"
	"shutter/hist"
	"shutter/lin"
	"shutter/live"
	"shutter/script"
)

// shapes are how many threads, and calls of each, together no more than checkShown takes.
func shapes() [][2]int {
	return [][2]int{{2, 7}, {3, 4}, {4, 3}, {7, 2}, {14, 1}}
}

// someThreads are threads that a seed stands for, with a store that may be short of cells, slots or stamps.
func someThreads(t *testing.T, seed uint64) (api.Config, [][]api.Op) {
	t.Helper()
	c := config()
	switch seed % 6 {
	case 1:
		c.Cells = 160
	case 2:
		c.Slots = 1
	case 3:
		c.Stamps = 2
	case 4:
		c.Slots = 8
	}
	shape := shapes()[seed%5]
	s, errno := script.Draw(seed, c, shape[0], shape[1], 0)
	if errno != api.OK {
		t.Fatal(errno)
	}
	return c, s.Threads
}

// P22.2 (E8), P22.9 (E3): some order shows what was told, and leaves what is there.
func TestLinearizable(t *testing.T) {
	overlaps := 0
	for seed := range uint64(400) {
		c, threads := someThreads(t, seed)
		for _, w := range ways() {
			l, content, errno := w.run(c, threads)
			if errno != api.OK {
				t.Fatal(w.name, errno)
			}
			checkAll(t, threads, l)
			checkDids(t, threads, l)
			checkShown(t, c, l, content)
			if hist.Width(spansOf(l)) > 1 {
				overlaps++
			}
		}
	}
	if manyCores() && overlaps < 100 {
		t.Error("runs in which calls overlap:", overlaps)
	}
}

// manyCores tells whether goroutines can be under way at one time: on one core they get between one another too seldom to be waited for.
func manyCores() bool {
	return runtime.GOMAXPROCS(0) > 1 && runtime.NumCPU() > 1
}

func spansOf(l []api.Did) []api.Span {
	var spans []api.Span
	for _, d := range l {
		spans = append(spans, d.Span)
	}
	return spans
}

// P22.2: longer histories, key by key; the last operation of each key, behind all others, tells what is there.
func TestLinearizableKeyByKey(t *testing.T) {
	const threads, keys = 8, 12
	c := api.Config{Cells: 1 << 17, Slots: 2, Stamps: 100, Multi: 4}
	for seed := range 60 {
		work := make([][]api.Op, threads)
		for i := range work {
			for j := range 2 * keys {
				op := api.Op{Kind: api.Get + api.OpKind((seed+i*7+j*3+i*j)%4), Key: uint64(j / 2)}
				switch op.Kind {
				case api.Put:
					op.Value = uint64(i % 3)
				case api.Swap:
					op.Old, op.Value = uint64(j%3), uint64((i+j)%3)
				}
				work[i] = append(work[i], op)
			}
		}
		for _, w := range ways() {
			l, content, errno := w.run(c, work)
			if errno != api.OK {
				t.Fatal(w.name, errno)
			}
			checkAll(t, work, l)
			checkDids(t, work, l)
			if yes, errno := lin.Local(l); errno != api.OK || !yes {
				t.Fatalf("%s: %v %d\n%+v", w.name, yes, errno, l)
			}
			checkLeads(t, l, content)
		}
	}
}

// checkLeads checks that each key's changes lead, one to the other, from nothing to what is there (P22.5): as often as they find something it was put there, but for the first and the last.
func checkLeads(t *testing.T, l []api.Did, content []api.Pair) {
	t.Helper()
	type state struct {
		key   uint64
		there bool
		value uint64
	}
	left := map[state]int{} // how often something came to be so, less how often it was found so by one that changed it
	for _, key := range lin.Keys(l) {
		left[state{key: key}]++
	}
	for _, d := range l {
		a, op := d.Answer, d.Op
		if d.Span.To < 0 || a.Errno != api.OK {
			continue
		}
		found := state{op.Key, a.Found, a.Value}
		switch {
		case op.Kind == api.Put, op.Kind == api.Swap && a.Done:
			left[found]--
			left[state{op.Key, true, op.Value}]++
		case op.Kind == api.Delete && a.Found:
			left[found]--
			left[state{key: op.Key}]++
		}
	}
	for _, key := range lin.Keys(l) {
		end := state{key: key}
		if i := slices.IndexFunc(content, func(p api.Pair) bool { return p.Key == key }); i >= 0 {
			end = state{key, true, content[i].Value}
		}
		left[end]--
	}
	for s, n := range left {
		if n != 0 {
			t.Fatalf("%+v: %d\n%+v", s, n, l)
		}
	}
}

// P22.5: many that change one key, with values that are put once; and handles.
func TestChangesLead(t *testing.T) {
	const threads, calls = 8, 300
	c := api.Config{Cells: 1 << 18, Slots: threads, Stamps: 1 << 20, Multi: 4}
	work := make([][]api.Op, threads)
	for i := range work {
		for j := range calls {
			value := uint64(1 + i*calls + j)
			op := []api.Op{
				{Kind: api.Put, Key: 7, Value: value},
				{Kind: api.Snapshot},
				{Kind: api.Swap, Key: 7, Old: value - 2, Value: value},
				{Kind: api.Release, Ref: api.Ref{Set: true, Thread: i, Index: j - 2}},
				{Kind: api.Delete, Key: 7},
			}[j%5]
			work[i] = append(work[i], op)
		}
	}
	for _, w := range ways() {
		for range 3 {
			l, content, errno := w.run(c, work)
			if errno != api.OK {
				t.Fatal(w.name, errno)
			}
			checkAll(t, work, l)
			checkDids(t, work, l)
			checkLeads(t, l, content)
			checkHandles(t, l)
		}
	}
}

// checkHandles checks that each handle was told once, and each let go by whom it was told.
func checkHandles(t *testing.T, l []api.Did) {
	t.Helper()
	told := map[uint64]int{}
	for _, d := range l {
		switch {
		case d.Op.Kind == api.Snapshot && (d.Answer.Errno != api.OK || d.Answer.Handle == 0):
			t.Fatalf("%+v", d)
		case d.Op.Kind == api.Snapshot:
			told[d.Answer.Handle]++
		case d.Op.Kind == api.Release && d.Answer.Errno != api.OK:
			t.Fatalf("%+v", d)
		}
	}
	for handle, n := range told {
		if n != 1 {
			t.Fatal(handle, n)
		}
	}
	if len(told) == 0 {
		t.Fatal("no handles")
	}
}

// P22.4: each operation of a round goes ahead of each one of the next, also where threads are not of one length.
func TestRounds(t *testing.T) {
	threads := [][]api.Op{
		ops(t, "put 7 1", "put 7 2", "put 7 3", "get 7", "delete 7"),
		nil,
		ops(t, "put 7 4"),
		ops(t, "put 7 5", "snapshot", "range @3.1 0 9"),
		ops(t, "get 7", "get 7", "get 7", "get 7", "get 7"),
	}
	together := false
	for range 300 {
		l, content, errno := live.Rounds(config(), threads)
		if errno != api.OK {
			t.Fatal(errno)
		}
		checkAll(t, threads, l)
		checkDids(t, threads, l)
		checkShown(t, config(), l, content)
		for _, a := range l {
			for _, b := range l {
				if a.Span.Index < b.Span.Index && !hist.Ahead(a.Span, b.Span) {
					t.Fatalf("%+v\n%+v", a, b)
				}
			}
		}
		together = together || hist.Width(spansOf(l)) > 1
	}
	if manyCores() && !together {
		t.Error("no two calls of a round overlap, ever")
	}
}

// P22.6: others collect: of versions of which none is needed a thread's own Collect finds fewer than there were.
func TestCleanedCollects(t *testing.T) {
	c := api.Config{Cells: 1 << 18, Slots: 2, Stamps: 100, Multi: 4}
	const puts = 1000
	// Counts take so long that others come to their turn ahead of the Collect.
	thread := slices.Concat(ops(t, "snapshot"), slices.Repeat(ops(t, "put 7 1"), puts), slices.Repeat(ops(t, "count @0.0 0 9"), 3000), ops(t, "collect"))
	last := func(collectors int) uint64 {
		l, content, errno := live.Cleaned(c, [][]api.Op{thread}, collectors)
		if errno != api.OK || len(content) != 1 || len(l) != len(thread) {
			t.Fatal(errno, content, len(l))
		}
		return l[len(l)-1].Answer.Count
	}
	const whole = puts - 1 // all but the newest one: the picture was taken ahead of them
	if got := last(0); got != whole {
		t.Error("nobody else collects:", got)
	}
	for range 100 {
		if got := last(2); got < whole {
			return
		}
	}
	t.Error("others collect, and nothing is missing")
}

// P22.9 (E2, E3): a picture stays, whoever collects.
func TestPicturesStay(t *testing.T) {
	c := api.Config{Cells: 1 << 18, Slots: 64, Stamps: 1 << 20, Multi: 4}
	writes := func(from uint64) []api.Op {
		var l []api.Op
		for i := range uint64(600) {
			l = append(l, api.Op{Kind: api.Put, Key: i % 40, Value: from + i})
			if i%50 == 49 {
				l = append(l, api.Op{Kind: api.Delete, Key: i % 40}, api.Op{Kind: api.Snapshot})
			}
		}
		return l
	}
	looks := ops(t, "snapshot")
	for range 40 {
		looks = append(looks, ops(t, "range @2.0 0 18446744073709551615", "count @2.0 0 18446744073709551615")...)
	}
	threads := [][]api.Op{writes(1000), writes(2000), looks}
	for range 5 {
		l, _, errno := live.Cleaned(c, threads, 3)
		if errno != api.OK {
			t.Fatal(errno)
		}
		checkAll(t, threads, l)
		checkDids(t, threads, l)
		var first []api.Pair
		for _, d := range l {
			if d.Span.Thread != 2 || d.Op.Kind == api.Snapshot {
				continue
			}
			if d.Answer.Errno != api.OK {
				t.Fatalf("%+v", d)
			}
			switch {
			case d.Span.Index == 1:
				first = d.Answer.Pairs
			case d.Op.Kind == api.Range && !slices.Equal(d.Answer.Pairs, first):
				t.Fatalf("%v\n%v", first, d.Answer.Pairs)
			case d.Op.Kind == api.Count && d.Answer.Count != uint64(len(first)):
				t.Fatalf("%v\n%d", first, d.Answer.Count)
			}
		}
	}
}
