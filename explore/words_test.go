package explore_test

import (
	"fmt"
	"maps"
	"math/rand"
	"slices"
	"strconv"
	"strings"
	"testing"

	"shutter/api"
	"shutter/explore"
	"shutter/mix"
	"shutter/script"
	"shutter/store"
)

// spokenStep is a step, as the chapter speaks of it.
type spokenStep struct {
	thread  int
	access  *api.Access
	ref     api.Ref // of the operation that begins
	returns bool
}

// spoken tries a script as the chapter says it: each row of picks is done by store.Run, from the beginning.
type spoken struct {
	t      *testing.T
	script api.Script
	known  map[string]api.Result
}

func speak(t *testing.T, s api.Script) *spoken {
	return &spoken{t, s, map[string]api.Result{}}
}

// keyOf is a row as the key of a map.
func keyOf(row []int) string {
	key := make([]byte, len(row))
	for i, thread := range row {
		key[i] = byte(thread)
	}
	return string(key)
}

func (s *spoken) run(row []int) api.Result {
	key := keyOf(row)
	r, ok := s.known[key]
	if !ok {
		done := s.script
		done.Picks = row
		var errno api.Errno
		if r, errno = store.Run(done); errno != api.OK {
			s.t.Fatal(errno)
		}
		s.known[key] = r
	}
	return r
}

// able are the threads that have a call pending or left.
func (s *spoken) able(row []int) []int {
	var l []int
	r := s.run(row)
	for thread, ops := range s.script.Threads {
		returned := 0
		for _, d := range r.Dids {
			if d.Span.Thread == thread && d.Span.To >= 0 {
				returned++
			}
		}
		if returned < len(ops) {
			l = append(l, thread)
		}
	}
	return l
}

func behind(row []int, thread int) []int {
	return append(slices.Clone(row), thread)
}

// step is the one that a thread takes behind a row.
func (s *spoken) step(row []int, thread int) spokenStep {
	r := s.run(behind(row, thread))
	step := spokenStep{thread: thread}
	if n := len(r.Steps); n > 0 && r.Steps[n-1] == len(row) {
		step.access = &r.Trace[n-1]
	}
	for _, d := range r.Dids {
		if d.Span.From == len(row) {
			step.ref = s.script.Threads[thread][d.Span.Index].Ref
		}
		if d.Span.To == len(row) {
			step.returns = true
		}
	}
	return step
}

// outcome is that of a row.
func (s *spoken) outcome(row []int) string {
	r := s.run(row)
	text := ""
	for i, ops := range s.script.Threads {
		if i > 0 {
			text += " | "
		}
		for j, op := range ops {
			if j > 0 {
				text += "; "
			}
			told := "-"
			for _, d := range r.Dids {
				if d.Span.Thread == i && d.Span.Index == j && d.Span.To >= 0 {
					told = script.PrintAnswer(op.Kind, d.Answer)
				}
			}
			text += told
		}
	}
	return text
}

func clash(a, b spokenStep) bool {
	if a.ref.Set && a.ref.Thread == b.thread || b.ref.Set && b.ref.Thread == a.thread {
		return true
	}
	if a.access == nil || b.access == nil {
		return false
	}
	writes := func(x *api.Access) bool {
		return x.Kind == api.Store || x.Kind == api.Add || x.Kind == api.Cas && x.Ok
	}
	ofOneCell := a.access.Kind != api.Alloc && b.access.Kind != api.Alloc && a.access.Addr == b.access.Addr
	return ofOneCell && (writes(a.access) || writes(b.access)) ||
		a.access.Kind == api.Alloc && b.access.Kind == api.Alloc
}

// all are the full runs, in the order of their picks.
func (s *spoken) all() [][]int {
	var l [][]int
	var down func(row []int)
	down = func(row []int) {
		able := s.able(row)
		if len(able) == 0 {
			l = append(l, row)
		}
		for _, thread := range able {
			down(behind(row, thread))
		}
	}
	down(nil)
	return l
}

// few are the runs of trying by few orders.
func (s *spoken) few() [][]int {
	var l [][]int
	var down func(row []int, asleep map[int]spokenStep)
	down = func(row []int, asleep map[int]spokenStep) {
		able := s.able(row)
		if len(able) == 0 {
			l = append(l, row)
		}
		tried := map[int]spokenStep{}
		for _, thread := range able {
			if _, sleeps := asleep[thread]; sleeps {
				continue
			}
			step := s.step(row, thread)
			then := map[int]spokenStep{}
			for _, m := range []map[int]spokenStep{asleep, tried} {
				for other, its := range m {
					if !clash(its, step) {
						then[other] = its
					}
				}
			}
			down(behind(row, thread), then)
			tried[thread] = step
		}
	}
	down(nil, nil)
	return l
}

// reduced are the runs of trying by clashes.
func (s *spoken) reduced() [][]int {
	var l [][]int
	wanted := map[string]map[int]struct{}{}
	var down func(row []int, steps []spokenStep)
	down = func(row []int, steps []spokenStep) {
		able := s.able(row)
		if len(able) == 0 {
			l = append(l, row)
			return
		}
		here := map[int]struct{}{able[0]: {}}
		wanted[keyOf(row)] = here
		for _, q := range able {
			next := s.step(row, q)
			for i, step := range steps {
				if step.thread != q && clash(step, next) {
					wanted[keyOf(row[:i])][q] = struct{}{}
				}
			}
		}
		tried := map[int]struct{}{}
		for {
			thread := -1
			for _, q := range slices.Sorted(maps.Keys(here)) {
				if _, ok := tried[q]; !ok {
					thread = q
					break
				}
			}
			if thread < 0 {
				return
			}
			tried[thread] = struct{}{}
			down(behind(row, thread), append(slices.Clone(steps), s.step(row, thread)))
		}
	}
	down(nil, nil)
	return l
}

// switches is how many picks of a row are such.
func (s *spoken) switches(row []int) int {
	n := 0
	for i := 1; i < len(row); i++ {
		if row[i] != row[i-1] && !s.step(row[:i-1], row[i-1]).returns {
			n++
		}
	}
	return n
}

// check holds what a search told against the runs that it should have had.
func (s *spoken) check(name string, runs [][]int, l []string, n int, errno api.Errno) {
	s.t.Helper()
	outcomes := map[string]struct{}{}
	for _, row := range runs {
		outcomes[s.outcome(row)] = struct{}{}
	}
	if want := slices.Sorted(maps.Keys(outcomes)); errno != api.OK || n != len(runs) || !slices.Equal(l, want) {
		text, _ := script.Print(s.script)
		s.t.Fatalf("%s: %q by %d runs (%d), not %q by %d\n%s", name, l, n, errno, want, len(runs), text)
	}
}

// checkAll holds all searches of a script, which has not too many runs, against the chapter's words.
func (s *spoken) checkAll() {
	s.t.Helper()
	all := s.all()
	l, n, errno := explore.Outcomes(s.script)
	s.check("Outcomes", all, l, n, errno)
	l, n, errno = explore.Few(s.script)
	s.check("Few", s.few(), l, n, errno)
	l, n, errno = explore.Reduced(s.script)
	s.check("Reduced", s.reduced(), l, n, errno)
	for _, bound := range []int{-1, 0, 1, 2, 3, 5, 100} {
		var runs [][]int
		for _, row := range all {
			if s.switches(row) <= max(bound, 0) {
				runs = append(runs, row)
			}
		}
		l, n, errno := explore.Bounded(s.script, bound)
		s.check(fmt.Sprint("Bounded ", bound), runs, l, n, errno)
	}
	firsts := map[string][]int{}
	for _, row := range slices.Backward(all) {
		firsts[s.outcome(row)] = row
	}
	for outcome, row := range firsts {
		if picks, errno := explore.Reach(s.script, outcome); errno != api.OK || !slices.Equal(picks, row) {
			s.t.Fatalf("%q is reached by %d (%d), not by %d\n%+v", outcome, picks, errno, row, s.script)
		}
		if _, ok := firsts[outcome+"x"]; ok {
			continue
		}
		if picks, errno := explore.Reach(s.script, outcome+"x"); errno != api.ErrNone || picks != nil {
			s.t.Fatal(picks, errno)
		}
	}
}

// drawSmall is a script of few steps, with operations of all kinds, and such as are none.
func drawSmall(r *rand.Rand) api.Script {
	s := api.Script{
		Config:  api.Config{Cells: 300 + r.Intn(2)*200, Slots: 1 + r.Intn(2), Stamps: uint64(1 + r.Intn(4)), Multi: 1 + r.Intn(2)},
		Threads: make([][]api.Op, []int{1, 2, 2, 2, 2, 2, 3, 3}[r.Intn(8)]),
		Picks:   []int{r.Intn(3), -1},
	}
	if r.Intn(8) == 0 {
		s.Config.Cells = 128
		s.Config.Slots = 55 + r.Intn(8)
	}
	keys := []uint64{7, mix.Back(0), mix.Back(1)}
	key := func() uint64 { return keys[r.Intn(len(keys))] }
	changer := -1
	if r.Intn(3) > 0 {
		// A change, and maybe somebody who looks at it.
		keys = keys[:1]
		i := r.Intn(len(s.Threads))
		changer = i
		s.Threads[i] = append(s.Threads[i], api.Op{Kind: []api.OpKind{api.Put, api.Snapshot}[r.Intn(2)], Key: 7, Value: 1})
	}
	for range 1 + r.Intn(3) {
		op := api.Op{Kind: api.OpKind(r.Intn(12)), Key: key(), Value: uint64(r.Intn(2)), Old: uint64(r.Intn(2))}
		if r.Intn(3) > 0 {
			op.Kind = []api.OpKind{api.Get, api.Get, api.Delete, api.Put, api.Snapshot, api.Release, api.MultiGet}[r.Intn(7)]
		}
		if op.Kind == api.Collect || op.Kind == api.Range || op.Kind == api.Count {
			op.Lo, op.Hi = uint64(r.Intn(2)), uint64(r.Intn(9))
		}
		for range r.Intn(4) {
			op.Keys = append(op.Keys, key())
		}
		if r.Intn(3) > 0 {
			op.Ref = api.Ref{Set: r.Intn(8) > 0, Thread: r.Intn(len(s.Threads)+2) - 1, Index: r.Intn(4) - 1}
		}
		op.Handle = uint64(r.Intn(3))
		i := r.Intn(len(s.Threads))
		if i == changer {
			i = r.Intn(len(s.Threads))
		}
		s.Threads[i] = append(s.Threads[i], op)
	}
	return s
}

// P20.1, P20.7, P20.8: drawn scripts, tried as the chapter says it.
func TestByWords(t *testing.T) {
	t.Parallel()
	for part := range int64(4) {
		t.Run(strconv.Itoa(int(part)), func(t *testing.T) {
			t.Parallel()
			kinds, threads, several := map[api.OpKind]int{}, map[int]int{}, 0
			for seed := range int64(120) {
				s := speak(t, drawSmall(rand.New(rand.NewSource(1000*part+seed))))
				l, n, errno := explore.Outcomes(s.script)
				if errno == api.ErrLong || n > 300 {
					continue
				}
				s.checkAll()
				threads[len(s.script.Threads)]++
				for _, ops := range s.script.Threads {
					for _, op := range ops {
						kinds[op.Kind]++
					}
				}
				if len(l) > 1 {
					several++
				}
			}
			if several < 2 || threads[2] < 20 || threads[3] < 10 || len(kinds) != 12 {
				t.Error("too little has come up:", several, threads, kinds)
			}
		})
	}
}

// P20.1, P20.7, P20.8: scripts whose threads get between one another, tried as the chapter says it.
func TestSomeByWords(t *testing.T) {
	t.Parallel()
	for i, c := range []struct {
		text     string
		outcomes int
	}{
		{"config 300 1 9 2\nthread\nput 7 1\nthread\nget 7\n", 2},
		{"config 300 1 9 2\nthread\nput 7 1\nthread\ndelete 7\n", 2},
		{"config 300 1 9 2\nthread\nput 7 1\nthread\nget 8\nget 7\n", 2},
		{"config 300 1 9 2\nthread\nput 7 1\nthread\nswap 7 2 3\n", 2},
		{"config 300 1 9 2\nthread\nget 7\nput 7 1\nthread\nget 7\n", 2},
		{"config 300 1 9 2\nthread\nsnapshot\nthread\nrelease @0.0\nrelease @0.0\n", 3},
		{"config 300 1 9 2\nthread\nsnapshot\nthread\nrelease 1\nget 7\n", 2},
		{"config 300 1 9 2\nthread\nsnapshot\nrelease @0.0\nthread\nmultiget @0.0 7\n", 3},
		{"config 300 1 9 2\nthread\nsnapshot\nrelease @0.0\nthread\ncount @0.0 1 0\nthread\nget 7\n", 3},
		{"config 300 2 1 2\nthread\nsnapshot\nthread\nsnapshot\n", 1},
		{"config 128 55 9 2\nthread\nput 7 1\nthread\nput 8 1\n", 2},
		{"config 128 58 9 2\nthread\nput 7 1\nthread\nput 8 1\n", 1},
		{"config 300 1 9 2\nthread\nput 7 1\nthread\nget 7\nthread\nrelease @0.0\n", 2},
		{"config 300 1 9 2\nthread\nput 7 1\nthread\nrelease @0.0\nrelease @2.0\nthread\nget 7\n", 2},
	} {
		t.Run(strconv.Itoa(i), func(t *testing.T) {
			t.Parallel()
			s, errno, line := script.Parse(c.text)
			if errno != api.OK {
				t.Fatal(errno, line)
			}
			l, _, errno := explore.Outcomes(s)
			if errno != api.OK || len(l) != c.outcomes {
				t.Errorf("%q (%d)", l, errno)
			}
			speak(t, s).checkAll()
		})
	}
}

// P20.2: Outcome of results that were done in part, and of some that were spoilt.
func TestOutcomeByWords(t *testing.T) {
	told := 0
	for seed := range int64(400) {
		r := rand.New(rand.NewSource(seed))
		s := speak(t, drawSmall(r))
		var row []int
		for range r.Intn(30) {
			row = append(row, r.Intn(4)-1)
		}
		want := s.outcome(row)
		if got := explore.Outcome(s.script, s.run(row)); got != want {
			t.Fatalf("%q, not %q", got, want)
		}
		told += strings.Count(want, "-")
		// Behind all others, nothing is the first one any more; and what is of no call of the script plays no part.
		d := s.run(row)
		d.Dids = append(slices.Clone(d.Dids), d.Dids...)
		for i := range len(d.Dids) / 2 {
			more := &d.Dids[len(d.Dids)/2+i]
			more.Answer.Errno, more.Span.To = 99, 5
		}
		for _, span := range []api.Span{{Thread: -1}, {Thread: 7}, {Thread: 0, Index: -1}, {Thread: 0, Index: 99}} {
			d.Dids = slices.Insert(d.Dids, 0, api.Did{Span: span})
		}
		if got := explore.Outcome(s.script, d); got != want {
			t.Fatalf("%q, not %q", got, want)
		}
	}
	if told < 100 {
		t.Error("too little has come up:", told)
	}
}
