package explore_test

import (
	"math/rand"
	"slices"
	"strconv"
	"testing"

	"shutter/api"
	"shutter/explore"
	"shutter/hist"
	"shutter/lin"
	"shutter/mix"
	"shutter/script"
	"shutter/store"
	"shutter/witness"
)

// guesses tells whether an operation names a handle that a Snapshot told that it overlaps.
func guesses(l []api.Did) bool {
	for _, a := range l {
		if a.Op.Handle == 0 || a.Op.Kind < api.Release || a.Op.Kind > api.Count {
			continue
		}
		for _, b := range l {
			if b.Op.Kind == api.Snapshot && b.Answer.Handle == a.Op.Handle && !hist.Ahead(a.Span, b.Span) && !hist.Ahead(b.Span, a.Span) {
				return true
			}
		}
	}
	return false
}

// checkShown checks that some order shows what a full run came to (P20.5); false, if an operation guesses.
func checkShown(t *testing.T, s api.Script, picks []int) bool {
	t.Helper()
	s.Picks = picks
	r, errno := store.Run(s)
	if errno != api.OK {
		t.Fatal(errno)
	}
	if guesses(r.Dids) {
		return false
	}
	order, errno := witness.Order(s.Config, r)
	if errno != api.OK {
		t.Fatal(errno)
	}
	if errno := lin.Witness(r.Dids, order, s.Config.Multi); errno != api.OK {
		t.Fatalf("the order %d does not show (%d)\n%+v", order, errno, r.Dids)
	}
	if _, errno := lin.Find(r.Dids, s.Config.Multi); errno != api.OK && len(r.Dids) <= api.MaxFind {
		t.Fatal(errno)
	}
	return true
}

// checkReach checks P20.11 of an outcome that comes up, and P20.5 of how it does; false, if it comes up too late.
func checkReach(t *testing.T, s api.Script, outcome string) bool {
	t.Helper()
	picks, errno := explore.Reach(s, outcome)
	if errno == api.ErrLong {
		return false
	}
	if errno != api.OK {
		t.Fatalf("%q: %d", outcome, errno)
	}
	checkShown(t, s, picks)
	s.Picks = picks
	r, errno := store.Run(s)
	if got := explore.Outcome(s, r); errno != api.OK || got != outcome {
		t.Fatalf("%d come to %q, not %q (%d)", picks, got, outcome, errno)
	}
	return true
}

// picksToEnd lets threads take steps, drawn, till all calls have returned.
func picksToEnd(r *rand.Rand, s api.Script) []int {
	var picks []int
	for {
		for range 100 {
			picks = append(picks, slices.Repeat([]int{r.Intn(len(s.Threads))}, 1+r.Intn(3)*r.Intn(4))...)
		}
		s.Picks = picks
		done, _ := store.Run(s)
		left := 0
		for _, ops := range s.Threads {
			left += len(ops)
		}
		for _, d := range done.Dids {
			if d.Span.To >= 0 {
				left--
			}
		}
		if left == 0 {
			return picks
		}
	}
}

// oneBehindTheOther are the outcomes of the orders in which no two calls overlap.
func oneBehindTheOther(t *testing.T, s api.Script) []string {
	t.Helper()
	said := speak(t, s)
	var l []string
	var down func(row []int)
	down = func(row []int) {
		able := said.able(row)
		if len(able) == 0 {
			l = append(l, said.outcome(row))
		}
		for _, thread := range able {
			next := row
			for returned := false; !returned; {
				returned = said.step(next, thread).returns
				next = behind(next, thread)
			}
			down(next)
		}
	}
	down(nil)
	slices.Sort(l)
	return slices.Compact(l)
}

func holdsAll(l, less []string) bool {
	return !slices.ContainsFunc(less, func(s string) bool { return !slices.Contains(l, s) })
}

// drawScript is one of some threads that do a few things to one or two keys.
func drawScript(r *rand.Rand) api.Script {
	s, _ := script.Draw(r.Uint64(), api.Config{Cells: 800, Slots: 1 + r.Intn(2), Stamps: uint64(1 + r.Intn(9)), Multi: 2}, 2+r.Intn(2), 1, 0)
	for i, ops := range s.Threads {
		for j := range ops {
			op := &s.Threads[i][j]
			if op.Kind <= api.Swap {
				op.Key = mix.Back(uint64(r.Intn(4)/3) << 60)
			}
			if op.Kind == api.Collect || op.Kind == api.Range {
				*op = api.Op{Kind: api.Get, Key: mix.Back(0)}
			}
		}
		if r.Intn(3) == 0 {
			s.Threads[i] = append(s.Threads[i], api.Op{Kind: api.Get, Key: mix.Back(0)})
		}
		if r.Intn(4) == 0 {
			s.Threads[i] = append(s.Threads[i], api.Op{Kind: api.Release, Ref: api.Ref{Set: true, Thread: r.Intn(len(s.Threads))}})
		}
	}
	return s
}

// P20.3, P20.4, P20.9, P20.10, P20.11: drawn scripts.
func TestWhatFollows(t *testing.T) {
	t.Parallel()
	for part := range int64(3) {
		t.Run(strconv.Itoa(int(part)), func(t *testing.T) {
			t.Parallel()
			whole, fewer, late, several := 0, 0, 0, 0
			for seed := range int64(40) {
				r := rand.New(rand.NewSource(100*part + seed))
				s := drawScript(r)
				few, n, errno := explore.Few(s)
				if errno != api.OK {
					continue
				}
				reduced, k, errno := explore.Reduced(s)
				if errno == api.OK && (!slices.Equal(few, reduced) || k < n) {
					t.Fatalf("%q by %d, and %q by %d\n%+v", few, n, reduced, k, s)
				}
				all, m, errno := explore.Outcomes(s)
				if errno == api.OK {
					whole++
					if !slices.Equal(all, few) || n > m || k > m {
						t.Fatalf("%q by %d, and %q by %d (%d)\n%+v", all, m, few, n, k, s)
					}
				}
				if n < m {
					fewer++
				}
				if len(few) > 1 {
					several++
				}
				checkBounded(t, s, few, m)
				for range 3 {
					s.Picks = picksToEnd(r, s)
					done, _ := store.Run(s)
					if got := explore.Outcome(s, done); !slices.Contains(few, got) {
						t.Fatalf("%q is none of %q\n%+v", got, few, s)
					}
				}
				for _, outcome := range few {
					if !checkReach(t, s, outcome) {
						late++
					}
				}
			}
			if whole < 5 || fewer < 5 || several < 5 {
				t.Error("too little has come up:", whole, fewer, late, several)
			}
		})
	}
}

// checkBounded checks P20.10: all is how many full runs there are, 0 if these are too many.
func checkBounded(t *testing.T, s api.Script, outcomes []string, all int) {
	t.Helper()
	var last []string
	runs := 0
	for most := range 4 {
		l, n, errno := explore.Bounded(s, most)
		if errno == api.ErrLong {
			return
		}
		if errno != api.OK || n < runs || !holdsAll(l, last) || !holdsAll(outcomes, l) {
			t.Fatalf("%d: %q by %d (%d), and %q by %d of less\n%+v", most, l, n, errno, last, runs, s)
		}
		if most == 0 && !slices.Equal(l, oneBehindTheOther(t, s)) {
			t.Fatalf("%q, not %q", l, oneBehindTheOther(t, s))
		}
		last, runs = l, n
	}
	if all == 0 {
		return
	}
	for _, most := range []int{200, api.MaxPicks} {
		if l, n, errno := explore.Bounded(s, most); errno != api.OK || n != all || !slices.Equal(l, outcomes) {
			t.Fatalf("%q by %d (%d), not %q by %d\n%+v", l, n, errno, outcomes, all, s)
		}
	}
}

// P20.5: all full runs of some scripts are shown by some order.
func TestAllAreShown(t *testing.T) {
	t.Parallel()
	for i, s := range []api.Script{
		parse(t, "thread", "put 7 1", "thread", "get 7"),
		parse(t, "thread", "put 7 1", "thread", "delete 7"),
		parse(t, "thread", "snapshot", "thread", "release @0.0", "release @0.0"),
		parse(t, "thread", "snapshot", "release @0.0", "thread", "multiget @0.0 7"),
		parse(t, "thread", "put 7 1", "thread", "get 7", "thread", "get 8"),
		parse(t, "thread", "snapshot", "multiget @0.0 7", "thread", "get 7", "release @0.0"),
	} {
		for _, row := range speak(t, s).all() {
			if !checkShown(t, s, row) {
				t.Fatal(i, "who has a handle by a Ref does not guess")
			}
		}
	}
}

// P20.6: threads that use no cell in common, and allot nothing, come to one outcome, by Few in one run.
func TestNothingInCommon(t *testing.T) {
	for threads := 1; threads < 6; threads++ {
		for calls := 1; calls < 4; calls++ {
			s := api.Script{Config: config}
			for i := range threads {
				var ops []api.Op
				for j := range calls {
					key := mix.Back(uint64(i) << 58)
					ops = append(ops, api.Op{Kind: []api.OpKind{api.Get, api.Delete, api.Swap, 0, 99}[(i+j)%5], Key: key})
				}
				s.Threads = append(s.Threads, ops)
			}
			for _, search := range []searchOf{explore.Few, explore.Reduced} {
				if l, n, errno := search(s); errno != api.OK || n != 1 || len(l) != 1 {
					t.Errorf("%d threads of %d calls: %q, %d, %d", threads, calls, l, n, errno)
				}
			}
			if l, n, errno := explore.Outcomes(s); errno == api.OK && (len(l) != 1 || n < 1) {
				t.Errorf("%d threads of %d calls: %q, %d, %d", threads, calls, l, n, errno)
			}
		}
	}
}

// P20.3, P20.9: a step clashes with those of a thread that its Ref names: so the handle is told, or not.
func TestRefsClash(t *testing.T) {
	s := parse(t, "thread", "snapshot", "thread", "release @0.0", "thread", "count @0.0 1 0")
	all, m, errno := explore.Outcomes(s)
	if errno != api.OK || len(all) < 5 {
		t.Fatalf("%q (%d)", all, errno)
	}
	for _, search := range []searchOf{explore.Few, explore.Reduced} {
		if l, n, errno := search(s); errno != api.OK || n > m || !slices.Equal(l, all) {
			t.Errorf("%q, %d, %d, not %q", l, n, errno, all)
		}
	}
}

// P20.9: many runs by clashes, but not too many.
func TestManyClashes(t *testing.T) {
	s := parse(t, "thread", "put 7 1", "put 7 2", "thread", "snapshot", "multiget @1.0 7")
	l, n, errno := explore.Reduced(s)
	few, m, errnoOfFew := explore.Few(s)
	if errno != api.OK || errnoOfFew != api.OK || !slices.Equal(l, few) || len(l) != 3 || n < m || n < api.MaxRuns/2 {
		t.Errorf("%q by %d (%d), %q by %d (%d)", l, n, errno, few, m, errnoOfFew)
	}
}
