package explore_test

import (
	"reflect"
	"slices"
	"strings"
	"testing"

	"shutter/api"
	"shutter/explore"
	"shutter/script"
)

type searchOf func(api.Script) ([]string, int, api.Errno)

// searches are all functions of that form, Bounded with as many switches as there may be.
func searches() map[string]searchOf {
	return map[string]searchOf{
		"Outcomes": explore.Outcomes,
		"Few":      explore.Few,
		"Reduced":  explore.Reduced,
		"Bounded":  func(s api.Script) ([]string, int, api.Errno) { return explore.Bounded(s, api.MaxPicks) },
	}
}

var config = api.Config{Cells: 2000, Slots: 2, Stamps: 100, Multi: 4}

func parse(t *testing.T, lines ...string) api.Script {
	t.Helper()
	s, errno, line := script.Parse("config 2000 2 100 4\n" + strings.Join(lines, "\n") + "\n")
	if errno != api.OK {
		t.Fatal(errno, line)
	}
	return s
}

// gets is a thread of so many Gets.
func gets(n int) []api.Op {
	return slices.Repeat([]api.Op{{Kind: api.Get, Key: 7}}, n)
}

// P20.1, P20.7: the chapter's examples.
func TestExamples(t *testing.T) {
	for i, c := range []struct {
		script   api.Script
		outcomes []string
		runs     map[string]int
	}{
		{parse(t, "thread", "get 7", "thread", "get 7"), []string{"none | none"}, map[string]int{"Outcomes": 2, "Few": 1, "Reduced": 1, "Bounded": 2}},
		{parse(t, "thread", "get 7", "get 7", "thread", "get 7"), []string{"none; none | none"}, map[string]int{"Outcomes": 3, "Few": 1, "Reduced": 1, "Bounded": 3}},
		{parse(t, "thread", "put 7 1", "thread", "put 7 2"), []string{"found 2 | none", "none | found 1"}, nil},
		{parse(t, "thread", "put 7 1", "swap 7 1 2", "thread", "get 7"), []string{"none; done 1 | found 1", "none; done 1 | found 2", "none; done 1 | none"}, nil},
	} {
		for name, search := range searches() {
			l, n, errno := search(c.script)
			if c.runs == nil && errno == api.ErrLong && (name == "Outcomes" || name == "Bounded") {
				// All orders are too many; what there is is told by fewer switches.
				l, n, errno = explore.Bounded(c.script, 3)
			}
			if errno != api.OK || !slices.Equal(l, c.outcomes) || c.runs != nil && n != c.runs[name] {
				t.Errorf("%d: %s: %q by %d runs (%d)", i, name, l, n, errno)
			}
		}
	}
}

// P20.1: a script without operations has one run.
func TestNothingToDo(t *testing.T) {
	for _, c := range []struct {
		threads [][]api.Op
		outcome string
	}{
		{nil, ""},
		{[][]api.Op{{}}, ""},
		{[][]api.Op{nil, {}, nil}, " |  | "},
	} {
		s := api.Script{Config: config, Threads: c.threads, Picks: []int{0, 5}}
		for name, search := range searches() {
			if l, n, errno := search(s); errno != api.OK || n != 1 || !slices.Equal(l, []string{c.outcome}) {
				t.Errorf("%s: %q, %d, %d", name, l, n, errno)
			}
		}
		if picks, errno := explore.Reach(s, c.outcome); errno != api.OK || len(picks) != 0 {
			t.Error(picks, errno)
		}
		if picks, errno := explore.Reach(s, "none"); errno != api.ErrNone || picks != nil {
			t.Error(picks, errno)
		}
		if got := explore.Outcome(s, api.Result{}); got != c.outcome {
			t.Errorf("%q", got)
		}
	}
}

// P20.1: the script's own picks play no part; a thread without operations has its place.
func TestPicksPlayNoPart(t *testing.T) {
	s := parse(t, "thread", "thread", "put 7 1", "thread", "get 7")
	for name, search := range searches() {
		l, n, errno := search(s)
		if errno != api.OK || !slices.Equal(l, []string{" | none | found 1", " | none | none"}) {
			t.Errorf("%s: %q (%d)", name, l, errno)
		}
		other := s
		other.Picks = slices.Repeat([]int{1, 2, 9, -4}, 100)
		if l2, n2, errno := search(other); errno != api.OK || n2 != n || !slices.Equal(l, l2) {
			t.Errorf("%s: %q (%d)", name, l2, errno)
		}
	}
}

// P20.1, P20.7, P20.8: store.Run's errors, the picks' length among them.
func TestWrongScripts(t *testing.T) {
	long := make([][]api.Op, api.MaxThreads+1)
	for i, c := range []struct {
		s    api.Script
		want api.Errno
	}{
		{api.Script{}, api.ErrRange},
		{api.Script{Threads: long}, api.ErrRange},
		{api.Script{Config: api.Config{Cells: 128, Slots: 63, Stamps: 1, Multi: 1}, Threads: long}, api.ErrMemory},
		{api.Script{Config: config, Threads: long}, api.ErrLong},
		{api.Script{Config: config, Threads: [][]api.Op{make([]api.Op, api.MaxCalls+1)}}, api.ErrLong},
		{api.Script{Config: config, Picks: make([]int, api.MaxPicks+1)}, api.ErrLong},
		{api.Script{Config: config, Picks: make([]int, api.MaxPicks)}, api.OK},
		{api.Script{Config: config, Threads: [][]api.Op{make([]api.Op, api.MaxCalls)}}, api.OK},
		{api.Script{Config: config, Threads: make([][]api.Op, api.MaxThreads)}, api.OK},
	} {
		for name, search := range searches() {
			if l, n, errno := search(c.s); errno != c.want || errno != api.OK && (l != nil || n != 0) {
				t.Errorf("%d: %s: %q, %d, %d", i, name, l, n, errno)
			}
		}
		want := c.want
		if want == api.OK {
			want = api.ErrNone
		}
		if picks, errno := explore.Reach(c.s, "x"); errno != want || picks != nil {
			t.Errorf("%d: %d, %d", i, picks, errno)
		}
	}
}

// noneOf is what threads of Gets of an empty store come to.
func noneOf(threads [][]api.Op) string {
	var texts []string
	for _, ops := range threads {
		texts = append(texts, strings.Join(slices.Repeat([]string{"none"}, len(ops)), "; "))
	}
	return strings.Join(texts, " | ")
}

// P20.1, P20.7: as many runs as there may be, nearly, and some more.
func TestTooManyRuns(t *testing.T) {
	t.Parallel()
	for i, c := range []struct {
		threads [][]api.Op
		runs    int // 0: too many
		names   []string
	}{
		{[][]api.Op{gets(12), gets(7)}, 50388, []string{"Outcomes", "Bounded"}},
		{[][]api.Op{gets(1), gets(254), gets(1)}, 65280, []string{"Outcomes"}},
		{[][]api.Op{gets(1), gets(255), gets(1)}, 0, []string{"Outcomes"}},
		{[][]api.Op{gets(5), gets(21)}, 0, []string{"Outcomes", "Bounded"}},
	} {
		s := api.Script{Config: config, Threads: c.threads}
		for _, name := range c.names {
			l, n, errno := searches()[name](s)
			if c.runs == 0 && (errno != api.ErrLong || n != 0 || l != nil) {
				t.Errorf("%d: %s: %d runs (%d)", i, name, n, errno)
			}
			if c.runs != 0 && (errno != api.OK || n != c.runs || !slices.Equal(l, []string{noneOf(c.threads)})) {
				t.Errorf("%d: %s: %d runs (%d)", i, name, n, errno)
			}
		}
		for _, name := range []string{"Few", "Reduced"} {
			if l, n, errno := searches()[name](s); errno != api.OK || n != 1 || !slices.Equal(l, []string{noneOf(c.threads)}) {
				t.Errorf("%d: %s: %q, %d, %d", i, name, l, n, errno)
			}
		}
	}
}

// P20.8: an outcome that no run has, where there are not too many, and where there are.
func TestReachNothing(t *testing.T) {
	for _, c := range []struct {
		threads [][]api.Op
		want    api.Errno
	}{
		{[][]api.Op{gets(12), gets(7)}, api.ErrNone},
		{[][]api.Op{gets(5), gets(21)}, api.ErrLong},
	} {
		s := api.Script{Config: config, Threads: c.threads}
		if picks, errno := explore.Reach(s, "none"); errno != c.want || picks != nil {
			t.Error(picks, errno)
		}
		if picks, errno := explore.Reach(s, noneOf(c.threads)); errno != api.OK || !slices.IsSorted(picks) {
			t.Error(picks, errno)
		}
	}
}

// P20.7: Few and Reduced can have too many runs, too.
func TestTooManyClashes(t *testing.T) {
	t.Parallel()
	s := parse(t, "thread", "put 7 1", "thread", "put 7 2", "thread", "put 7 3")
	for name, search := range searches() {
		if l, n, errno := search(s); errno != api.ErrLong || n != 0 || l != nil {
			t.Errorf("%s: %q, %d, %d", name, l, n, errno)
		}
	}
}

// P20.8: an outcome that comes up, but not in one of the first MaxRuns runs.
func TestReachTooLate(t *testing.T) {
	s := api.Script{Config: config, Threads: [][]api.Op{gets(30), {{Kind: api.Put, Key: 7, Value: 1}}}}
	none := strings.Repeat("none; ", 29) + "none | none"
	if picks, errno := explore.Reach(s, none); errno != api.OK || !slices.Equal(picks, append(make([]int, 30), 1, 1, 1, 1, 1, 1, 1, 1)) {
		t.Error(picks, errno)
	}
	if picks, errno := explore.Reach(s, strings.ReplaceAll(none, "none;", "found 1;")); errno != api.ErrLong || picks != nil {
		t.Error(picks, errno)
	}
	s.Threads[0], s.Threads[1] = s.Threads[1], s.Threads[0]
	found := "none | " + strings.Repeat("found 1; ", 29) + "found 1"
	if picks, errno := explore.Reach(s, found); errno != api.OK || !slices.IsSorted(picks) {
		t.Error(picks, errno)
	}
}

// P20.8: by the shared example: the first run of those that come to it.
func TestReach(t *testing.T) {
	s := parse(t, "thread", "put 7 1", "thread", "get 7")
	picks, errno := explore.Reach(s, "none | none")
	if errno != api.OK || !slices.Equal(picks, []int{0, 0, 0, 0, 1, 0, 0, 0, 0}) {
		t.Error(picks, errno)
	}
	picks, errno = explore.Reach(s, "none | found 1")
	if errno != api.OK || !slices.Equal(picks, []int{0, 0, 0, 0, 0, 0, 0, 0, 1, 1, 1, 1, 1}) {
		t.Error(picks, errno)
	}
	for _, outcome := range []string{"", "none", "none | found 2", "none | none ", "none | -", "none | none | none"} {
		if picks, errno := explore.Reach(s, outcome); errno != api.ErrNone || picks != nil {
			t.Errorf("%q: %d, %d", outcome, picks, errno)
		}
	}
}

// P20.2: Clash of all kinds, that are none too, of one cell or two.
func TestClash(t *testing.T) {
	const load, store, casDone, cas, add, alloc, none = 0, 1, 2, 3, 4, 5, 6
	access := func(what int, addr uint64) api.Access {
		kinds := [...]api.AccessKind{api.Load, api.Store, api.Cas, api.Cas, api.Add, api.Alloc, 9}
		// What else they have plays no part.
		return api.Access{Thread: what % 2, Kind: kinds[what], Addr: addr, A: 3, B: 3, Values: []uint64{1}, Got: 4, Ok: what == casDone}
	}
	writes := map[int]struct{}{store: {}, casDone: {}, add: {}}
	for a := range none + 1 {
		for b := range none + 1 {
			_, one := writes[a]
			_, two := writes[b]
			both := a == alloc && b == alloc
			// An Alloc is of no one cell.
			cell := a != alloc && b != alloc
			if got := explore.Clash(access(a, 5), access(b, 5)); got != (cell && (one || two) || both) {
				t.Errorf("%d and %d of one cell: %t", a, b, got)
			}
			if got := explore.Clash(access(a, 5), access(b, 6)); got != both {
				t.Errorf("%d and %d of two cells: %t", a, b, got)
			}
		}
	}
	if explore.Clash(api.Access{}, api.Access{}) {
		t.Error("nothing clashes with nothing")
	}
	mixed := access(load, 5)
	mixed.Ok = true
	if explore.Clash(mixed, mixed) {
		t.Error("a Load writes nothing")
	}
}

// P20.2: an Alloc clashes with each other one, and with nothing else, whatever it hands out, or if it had no room.
func TestAllocClash(t *testing.T) {
	allocs := []api.Access{
		{Kind: api.Alloc},
		{Kind: api.Alloc, Values: []uint64{1, 2}},
		{Kind: api.Alloc, Addr: 2},
		{Kind: api.Alloc, Addr: 2, Values: []uint64{5, 6}},
		{Kind: api.Alloc, Addr: 9, Values: []uint64{7}, Ok: true},
	}
	both := func(a, b api.Access, want bool) {
		t.Helper()
		if explore.Clash(a, b) != want || explore.Clash(b, a) != want {
			t.Errorf("%+v and %+v clash: %t", a, b, !want)
		}
	}
	for _, a := range allocs {
		for _, b := range allocs {
			both(a, b, true)
		}
		for addr := range uint64(11) {
			both(a, api.Access{Kind: api.Load, Addr: addr, Got: 5}, false)
			both(a, api.Access{Kind: api.Store, Addr: addr, A: 9}, false)
			both(a, api.Access{Kind: api.Add, Addr: addr, A: 1, Got: 5}, false)
			both(a, api.Access{Kind: api.Cas, Addr: addr, A: 5, B: 7, Ok: true}, false)
			both(a, api.Access{Kind: api.Cas, Addr: addr, A: 5, B: 7}, false)
		}
	}
	both(api.Access{Kind: api.Store}, api.Access{Kind: api.Load}, true)
}

// P20.2: Outcome, by what the Dids are.
func TestOutcome(t *testing.T) {
	s := api.Script{Threads: [][]api.Op{
		{{Kind: api.Get}, {Kind: api.Snapshot}},
		{},
		{{Kind: api.Range}, {Kind: api.Release}, {Kind: 77}},
	}}
	did := func(thread, index, to int, a api.Answer) api.Did {
		return api.Did{Span: api.Span{Thread: thread, Index: index, To: to}, Op: api.Op{Kind: api.Count}, Answer: a}
	}
	for i, c := range []struct {
		dids []api.Did
		want string
	}{
		{nil, "-; - |  | -; -; -"},
		{[]api.Did{did(0, 0, 4, api.Answer{Found: true, Value: 8})}, "found 8; - |  | -; -; -"},
		{[]api.Did{did(0, 0, -1, api.Answer{Found: true, Value: 8})}, "-; - |  | -; -; -"},
		// The kind is the script's.
		{[]api.Did{did(2, 0, 0, api.Answer{Pairs: []api.Pair{{Key: 1, Value: 2}}}), did(0, 1, 3, api.Answer{Handle: 5})}, "-; handle 5 |  | pairs 1:2; -; -"},
		{[]api.Did{did(2, 2, 0, api.Answer{Errno: api.ErrOp}), did(2, 1, 3, api.Answer{})}, "-; - |  | -; ok; errno 160"},
		{[]api.Did{did(2, 2, 0, api.Answer{})}, "-; - |  | -; -; ok"},
		// The first one of each.
		{[]api.Did{did(0, 0, 9, api.Answer{}), did(0, 0, 2, api.Answer{Errno: 3})}, "none; - |  | -; -; -"},
		{[]api.Did{did(0, 0, -1, api.Answer{}), did(0, 0, 2, api.Answer{Errno: 3})}, "-; - |  | -; -; -"},
		// None of the script's.
		{[]api.Did{did(-1, 0, 1, api.Answer{}), did(3, 0, 1, api.Answer{}), did(0, -1, 1, api.Answer{}), did(0, 2, 1, api.Answer{}), did(1, 0, 1, api.Answer{})}, "-; - |  | -; -; -"},
	} {
		if got := explore.Outcome(s, api.Result{Dids: c.dids}); got != c.want {
			t.Errorf("%d: %q, not %q", i, got, c.want)
		}
	}
	if got := explore.Outcome(api.Script{}, api.Result{Dids: []api.Did{did(0, 0, 1, api.Answer{})}}); got != "" {
		t.Errorf("%q", got)
	}
}

// P3: what is handed in stays, what is told is the caller's.
func TestListsStay(t *testing.T) {
	make := func() api.Script {
		return api.Script{
			Config: config,
			Threads: [][]api.Op{
				{{Kind: api.Snapshot}, {Kind: api.MultiGet, Ref: api.Ref{Set: true}, Keys: []uint64{7, 7, 8}}},
				{{Kind: api.Get, Key: 7}},
			},
			Picks: append(make([]int, 0, 8), 0, 1),
		}
	}
	s := make()
	s.Threads[0][1].Keys = append(s.Threads[0][1].Keys, 99)[:3]
	for name, search := range searches() {
		a, _, _ := search(s)
		a[0] = "x"
		if b, _, errno := search(s); errno != api.OK || b[0] == "x" {
			t.Error(name, b, errno)
		}
	}
	p, _ := explore.Reach(s, "handle 1; pairs | none")
	p[0] = 77
	if q, errno := explore.Reach(s, "handle 1; pairs | none"); errno != api.OK || q[0] != 0 {
		t.Error(q, errno)
	}
	if !reflect.DeepEqual(s, make()) || s.Threads[0][1].Keys[:4][3] != 99 || s.Picks[:8][2] != 0 {
		t.Error(s)
	}
}

// P1: a script of as many threads, or calls, as there may be.
func TestGreatScripts(t *testing.T) {
	wide := api.Script{Config: config}
	for range api.MaxThreads {
		wide.Threads = append(wide.Threads, gets(1))
	}
	if _, _, errno := explore.Outcomes(wide); errno != api.ErrLong {
		t.Error(errno)
	}
	if l, n, errno := explore.Reduced(wide); errno != api.OK || n != 1 || len(l) != 1 {
		t.Error(l, n, errno)
	}
	wide.Threads[63][0] = api.Op{Kind: api.Put, Key: 7, Value: 1}
	if picks, errno := explore.Reach(wide, strings.Repeat("none | ", 63)+"none"); errno != api.OK || !slices.IsSorted(picks) {
		t.Error(picks, errno)
	}
	for i := range wide.Threads {
		wide.Threads[i] = gets(40)
	}
	if picks, errno := explore.Reach(wide, noneOf(wide.Threads)); errno != api.OK || len(picks) != 64*40 || !slices.IsSorted(picks) {
		t.Error(picks, errno)
	}
	for i := range wide.Threads {
		wide.Threads[i] = gets(api.MaxCalls)
	}
	if _, _, errno := explore.Outcomes(wide); errno != api.ErrLong {
		t.Error(errno)
	}
	if _, _, errno := explore.Bounded(wide, 0); errno != api.ErrLong {
		t.Error(errno)
	}
	alone := api.Script{Config: config, Threads: [][]api.Op{slices.Repeat([]api.Op{{Kind: api.Put, Key: 7}}, 100)}}
	for name, search := range searches() {
		if l, n, errno := search(alone); errno != api.OK || n != 1 || !strings.HasPrefix(l[0], "none; found 0; found 0; ") {
			t.Error(name, l, n, errno)
		}
	}
}
