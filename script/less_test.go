package script_test

import (
	"math/rand"
	"reflect"
	"slices"
	"testing"

	"shutter/api"
	"shutter/hist"
	"shutter/script"
	"shutter/store"
)

func times(thread, n int) []int { return slices.Repeat([]int{thread}, n) }

func run(t *testing.T, s api.Script) api.Result {
	t.Helper()
	r, errno := store.Run(s)
	if errno != api.OK {
		t.Fatal(errno)
	}
	return r
}

// parse is the script with a text.
func parse(t *testing.T, text string) api.Script {
	t.Helper()
	s, errno, line := script.Parse(text)
	if errno != api.OK {
		t.Fatal(errno, "at", line)
	}
	return s
}

// stepsOf tells whether a pick let a Did take a step.
func stepsOf(s api.Script, d api.Did, pick int) bool {
	return s.Picks[pick] == d.Span.Thread && d.Span.From <= pick && (d.Span.To < 0 || pick <= d.Span.To)
}

// leave is a script without some of its operations, by the chapter's words.
func leave(t *testing.T, s api.Script, gone func(thread, index int) bool) api.Script {
	t.Helper()
	less := api.Script{Config: s.Config, Threads: make([][]api.Op, len(s.Threads))}
	for thread, ops := range s.Threads {
		for index, op := range ops {
			if gone(thread, index) {
				continue
			}
			if ref := op.Ref; ref.Set && ref.Thread < len(s.Threads) {
				for i := range s.Threads[ref.Thread] {
					if i < ref.Index && gone(ref.Thread, i) {
						op.Ref.Index--
					}
					if i == ref.Index && gone(ref.Thread, i) {
						op.Ref = api.Ref{}
						break
					}
				}
			}
			less.Threads[thread] = append(less.Threads[thread], op)
		}
	}
	r := run(t, s)
	for i, pick := range s.Picks {
		if !slices.ContainsFunc(r.Dids, func(d api.Did) bool { return gone(d.Span.Thread, d.Span.Index) && stepsOf(s, d, i) }) {
			less.Picks = append(less.Picks, pick)
		}
	}
	return less
}

// P17.3: a script without its Collects.
func TestWithout(t *testing.T) {
	s := api.Script{
		Config: config,
		Threads: [][]api.Op{
			{{Kind: api.Collect}, {Kind: api.Snapshot}, {Kind: api.Collect}, {Kind: api.Snapshot}},
			{
				{Kind: api.Release, Ref: refTo(0, 0)}, {Kind: api.Release, Ref: refTo(0, 1)}, {Kind: api.Release, Ref: refTo(0, 2)}, {Kind: api.Release, Ref: refTo(0, 3)},
				{Kind: api.Release, Ref: refTo(0, 4)}, {Kind: api.Release, Ref: refTo(0, 99)}, {Kind: api.Release, Ref: refTo(1, 3)}, {Kind: api.Release, Ref: refTo(2, 1)},
				{Kind: api.Release, Ref: refTo(3, 1)}, {Kind: api.Release, Handle: 5}, {Kind: api.MultiGet, Ref: refTo(0, 3), Keys: []uint64{7}},
			},
			{{Kind: api.Collect}},
		},
		Picks: []int{2, 2, 1, 3, -1, 0, 0, 2},
	}
	want := api.Script{
		Config: config,
		Threads: [][]api.Op{
			{{Kind: api.Snapshot}, {Kind: api.Snapshot}},
			{
				{Kind: api.Release}, {Kind: api.Release, Ref: refTo(0, 0)}, {Kind: api.Release}, {Kind: api.Release, Ref: refTo(0, 1)},
				{Kind: api.Release, Ref: refTo(0, 2)}, {Kind: api.Release, Ref: refTo(0, 97)}, {Kind: api.Release, Ref: refTo(1, 3)}, {Kind: api.Release, Ref: refTo(2, 0)},
				{Kind: api.Release, Ref: refTo(3, 1)}, {Kind: api.Release, Handle: 5}, {Kind: api.MultiGet, Ref: refTo(0, 1), Keys: []uint64{7}},
			},
			nil,
		},
		Picks: []int{1, 3, -1},
	}
	if got, errno := script.Without(s); errno != api.OK || !sameScript(got, want) {
		t.Errorf("%+v, %d", got, errno)
	}
}

// P17.3: a Collect takes just so many steps: the picks behind its return are others'.
func TestWithoutWholeCollect(t *testing.T) {
	s := api.Script{Config: config, Threads: [][]api.Op{{{Kind: api.Collect}, {Kind: api.Get, Key: 1}}, {{Kind: api.Put, Key: 1, Value: 2}}}}
	s.Picks = append(times(1, 8), times(0, 500)...)
	r := run(t, s)
	d := r.Dids[1]
	if d.Op.Kind != api.Collect || d.Span.To < 0 {
		t.Fatalf("%+v", r.Dids)
	}
	got, errno := script.Without(s)
	if want := append(times(1, 8), times(0, 500-(d.Span.To-d.Span.From+1))...); errno != api.OK || !slices.Equal(got.Picks, want) {
		t.Errorf("%d picks are left, not %d", len(got.Picks), len(want))
	}
}

// drawn is a drawn script, with picks that stay with a thread for a while, some of them idle.
func drawn(t *testing.T, seed uint64) api.Script {
	t.Helper()
	r := rand.New(rand.NewSource(int64(seed)))
	c := config
	switch r.Intn(5) {
	case 0:
		c.Cells = 128 + r.Intn(100)
	case 1:
		c.Stamps = uint64(1 + r.Intn(3))
	}
	s, errno := script.Draw(seed, c, 1+r.Intn(4), 1+r.Intn(6), 0)
	if errno != api.OK {
		t.Fatal(errno)
	}
	for range r.Intn(60) {
		s.Picks = append(s.Picks, times(r.Intn(len(s.Threads)+2)-1, 1+r.Intn(5)*r.Intn(5))...)
	}
	return s
}

// P17.3, P17.5: drawn scripts without their Collects, by the chapter's words; once more is the same.
func TestWithoutByWords(t *testing.T) {
	shorter := 0
	for seed := range uint64(2000) {
		s := drawn(t, seed)
		got, errno := script.Without(s)
		want := leave(t, s, func(thread, index int) bool { return s.Threads[thread][index].Kind == api.Collect })
		if errno != api.OK || !sameScript(got, want) {
			t.Fatalf("seed %d: %+v, %d, not %+v", seed, got, errno, want)
		}
		if errno := script.Right(got); errno != api.OK {
			t.Fatalf("seed %d: %+v is not right (%d)", seed, got, errno)
		}
		for _, ops := range got.Threads {
			if slices.ContainsFunc(ops, func(o api.Op) bool { return o.Kind == api.Collect }) {
				t.Fatalf("seed %d: %+v", seed, got)
			}
		}
		if again, errno := script.Without(got); errno != api.OK || !reflect.DeepEqual(again, got) {
			t.Fatalf("seed %d: %+v, and then %+v", seed, got, again)
		}
		if len(got.Picks) < len(s.Picks) {
			shorter++
		}
	}
	if shorter < 500 {
		t.Error("too few have a Collect that took a step:", shorter)
	}
}

// inTurn gives a script picks by which its calls come one behind the other, whole, in a drawn order of threads; some are left over at the end.
func inTurn(t *testing.T, r *rand.Rand, s api.Script) api.Script {
	t.Helper()
	var order []int
	for thread, ops := range s.Threads {
		order = append(order, times(thread, len(ops))...)
	}
	r.Shuffle(len(order), func(i, j int) { order[i], order[j] = order[j], order[i] })
	s.Picks = nil
	for _, thread := range order {
		ahead := len(s.Picks)
		s.Picks = append(s.Picks, times(thread, 1000)...)
		l := run(t, s).Dids
		d := slices.IndexFunc(l, func(d api.Did) bool { return d.Span.From == ahead })
		s.Picks = s.Picks[:l[d].Span.To+1]
	}
	for range r.Intn(2) * 200 {
		s.Picks = append(s.Picks, r.Intn(len(s.Threads)))
	}
	return s
}

// told is what the calls of a script told, Collects left aside, in the order in which they began, and whether P17.6 speaks of it.
func told(l []api.Did) ([]api.Answer, [][2]int, bool) {
	var answers []api.Answer
	var calls [][2]int
	collects := map[int]int{} // of each thread, ahead
	for i, d := range l {
		if d.Span.To < 0 || d.Answer.Errno == api.ErrMemory || i > 0 && !hist.Ahead(l[i-1].Span, d.Span) {
			return nil, nil, false
		}
		if d.Op.Kind == api.Collect {
			collects[d.Span.Thread]++
			continue
		}
		d.Answer.Pairs = append([]api.Pair{}, d.Answer.Pairs...)
		answers = append(answers, d.Answer)
		calls = append(calls, [2]int{d.Span.Thread, d.Span.Index - collects[d.Span.Thread]})
	}
	return answers, calls, true
}

// P17.6 (E3): calls that come one behind the other tell the same without the Collects among them.
func TestWithoutTellsTheSame(t *testing.T) {
	held := 0
	for seed := range uint64(400) {
		r := rand.New(rand.NewSource(int64(seed)))
		s, errno := script.Draw(seed, config, 1+r.Intn(3), 1+r.Intn(6), 0)
		if errno != api.OK {
			t.Fatal(errno)
		}
		s = inTurn(t, r, s)
		less, errno := script.Without(s)
		if errno != api.OK {
			t.Fatal(errno)
		}
		a, order, ok := told(run(t, s).Dids)
		if !ok {
			t.Fatalf("seed %d: calls overlap", seed)
		}
		b, orderOfLess, ok := told(run(t, less).Dids)
		if !ok || !slices.Equal(order, orderOfLess) {
			continue
		}
		if held++; !reflect.DeepEqual(a, b) {
			t.Fatalf("seed %d: %+v, and without Collects %+v", seed, a, b)
		}
	}
	if held < 200 {
		t.Error("too few:", held)
	}
}

// tells is what a call told, and whether it has returned.
func tells(t *testing.T, s api.Script, thread, index int) (string, bool) {
	t.Helper()
	for _, d := range run(t, s).Dids {
		if d.Span.Thread == thread && d.Span.Index == index && d.Span.To >= 0 {
			return script.PrintAnswer(d.Op.Kind, d.Answer), true
		}
	}
	return "", false
}

// leastOps and leastPicks are the two parts of Least by the chapter's words: what is left, and the number of the call in its thread then.
func leastOps(t *testing.T, s api.Script, thread, index int) (api.Script, int) {
	t.Helper()
	text, _ := tells(t, s, thread, index)
	for i := len(s.Threads) - 1; i >= 0; i-- {
		for j := len(s.Threads[i]) - 1; j >= 0; j-- {
			if i == thread && j == index {
				continue
			}
			less := leave(t, s, func(a, b int) bool { return a == i && b == j })
			then := index
			if i == thread && j < index {
				then--
			}
			if told, ok := tells(t, less, thread, then); ok && told == text {
				s, index = less, then
			}
		}
	}
	return s, index
}

func leastPicks(t *testing.T, s api.Script, thread, index int) api.Script {
	t.Helper()
	text, _ := tells(t, s, thread, index)
	for i := len(s.Picks) - 1; i >= 0; i-- {
		less := s
		less.Picks = append(slices.Clone(s.Picks[:i]), s.Picks[i+1:]...)
		if told, ok := tells(t, less, thread, index); ok && told == text {
			s = less
		}
	}
	return s
}

// P17.8, P17.10: the least of drawn scripts, by the chapter's words; the call is there, and tells the same; and few have a pick that is not needed for itself (one that was needed when it was tried may not be when those ahead of it have gone).
func TestLeastByWords(t *testing.T) {
	calls, twice := 0, 0
	for seed := range uint64(150) {
		s := drawn(t, seed)
		for _, d := range run(t, s).Dids {
			thread, index := d.Span.Thread, d.Span.Index
			got, errno := script.Least(s, thread, index)
			if d.Span.To < 0 {
				if errno != api.ErrNone || !reflect.DeepEqual(got, api.Script{}) {
					t.Fatalf("seed %d, %+v: %d", seed, d, errno)
				}
				continue
			}
			calls++
			less, then := leastOps(t, s, thread, index)
			want := leastPicks(t, less, thread, then)
			if errno != api.OK || !sameScript(got, want) {
				t.Fatalf("seed %d, %+v: %+v, %d, not %+v", seed, d.Span, got, errno, want)
			}
			if errno := script.Right(got); errno != api.OK {
				t.Fatalf("seed %d: %+v is not right (%d)", seed, got, errno)
			}
			if text, ok := tells(t, got, thread, then); !ok || text != script.PrintAnswer(d.Op.Kind, d.Answer) {
				t.Fatalf("seed %d, %+v: it tells %q", seed, d, text)
			}
			if again := leastPicks(t, got, thread, then); !sameScript(again, got) {
				twice++
			}
		}
	}
	if calls < 500 || twice*100 > calls {
		t.Error("calls, and how many leave picks that are not needed:", calls, twice)
	}
}

// P17.8: there is no such call, or it has not returned.
func TestLeastOfNoCall(t *testing.T) {
	s := parse(t, lines("config 2000 2 100 4", "thread", "get 7", "get 7", "thread", "collect", "picks 0 1 1 1"))
	for _, call := range [][2]int{{0, 1}, {0, 2}, {0, -1}, {1, 0}, {1, 1}, {2, 0}, {-1, 0}, {99, 99}} {
		if got, errno := script.Least(s, call[0], call[1]); errno != api.ErrNone || !reflect.DeepEqual(got, api.Script{}) {
			t.Errorf("%d: %+v, %d", call, got, errno)
		}
	}
	if _, errno := script.Least(s, 0, 0); errno != api.OK {
		t.Error(errno)
	}
}

// P17.8, P17.10: what a call needs is left, and nothing else; each pick that is left is needed, for itself.
func TestLeast(t *testing.T) {
	first := "config 2000 2 100 4"
	for i, c := range []struct {
		text          string
		picks         []int
		thread, index int
		want          string
		left          []int
	}{
		{ // A Get that finds nothing needs nobody.
			lines(first, "thread", "put 8 1", "get 7", "get 8", "thread", "put 7 1", "get 9"), slices.Concat([]int{5, 1, 1}, times(0, 30)), 0, 1,
			lines(first, "thread", "get 7", "thread"), times(0, 1),
		},
		{ // One that finds something needs the Put, and neither what came behind it nor what came ahead.
			lines(first, "thread", "get 9", "put 7 1", "put 7 2", "thread", "collect", "get 7"), slices.Concat(times(0, 9), times(1, 90), times(0, 20)), 1, 1,
			lines(first, "thread", "put 7 1", "thread", "get 7"), slices.Concat(times(0, 8), times(1, 5)),
		},
		{ // Who names a handle needs the Snapshot; its Ref goes on naming that.
			lines(first, "thread", "collect", "snapshot", "snapshot", "thread", "get 7", "count @0.2 0 9", "release @0.1"), slices.Concat(times(0, 90), []int{2, 2}, times(1, 200)), 1, 2,
			lines(first, "thread", "snapshot", "thread", "release @0.0"), slices.Concat(times(0, 7), times(1, 2)),
		},
		{ // Who was told an error, because there is no handle, needs no Snapshot: the Ref is the handle 0.
			lines(first, "thread", "snapshot", "thread", "release @0.0", "get 7"), slices.Concat(times(0, 6), times(1, 3), times(0, 1)), 1, 0,
			lines(first, "thread", "thread", "release 0"), times(1, 1),
		},
		{ // Both threads' steps are needed where the one gets between the other's.
			lines(first, "thread", "put 7 1", "thread", "put 7 2"), slices.Concat(times(1, 4), times(0, 9), times(1, 30)), 1, 0,
			lines(first, "thread", "put 7 1", "thread", "put 7 2"), slices.Concat(times(1, 4), times(0, 8), times(1, 16)),
		},
		{ // What has not begun is left out.
			lines(first, "thread", "get 1", "put 7 1", "release @0.1", "thread", "release @0.5", "thread", "range @0.3 0 1"), times(0, 1), 0, 0,
			lines(first, "thread", "get 1", "thread", "thread"), times(0, 1),
		},
	} {
		s, want := parse(t, c.text), parse(t, c.want)
		s.Picks, want.Picks = c.picks, c.left
		got, errno := script.Least(s, c.thread, c.index)
		if errno != api.OK || !sameScript(got, want) {
			t.Errorf("%d: %+v, %d", i, got, errno)
			continue
		}
		ahead, _ := tells(t, s, c.thread, c.index)
		for j := range got.Picks {
			less := got
			less.Picks = slices.Delete(slices.Clone(got.Picks), j, j+1)
			if text, ok := tells(t, less, c.thread, 0); ok && text == ahead {
				t.Errorf("%d: the pick %d is not needed", i, j)
			}
		}
		if again, errno := script.Least(got, c.thread, 0); errno != api.OK || !sameScript(again, got) {
			t.Errorf("%d: once more: %+v, %d", i, again, errno)
		}
	}
}
