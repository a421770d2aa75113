package progress_test

import (
	"math"
	"reflect"
	"slices"
	"strconv"
	"testing"

	"shutter/api"
	"shutter/mix"
	"shutter/progress"
	"shutter/store"
)

var config = api.Config{Cells: 2000, Slots: 2, Stamps: 100, Multi: 4}

func times(thread, n int) []int {
	return slices.Repeat([]int{thread}, n)
}

func run(t *testing.T, s api.Script) api.Result {
	t.Helper()
	r, errno := store.Run(s)
	if errno != api.OK {
		t.Fatal(errno)
	}
	return r
}

// P19.1: the chapter's first example.
func TestPut(t *testing.T) {
	s := api.Script{Config: config, Threads: [][]api.Op{{{Kind: api.Put, Key: 7, Value: 1}}}, Picks: times(0, 8)}
	r := run(t, s)
	if own := progress.Own(r); !slices.Equal(own, []int{8}) {
		t.Error(own)
	}
	if n := progress.Longest(r); n != 7 {
		t.Error(n)
	}
}

// P19.1: Bound, of numbers reckoned by hand.
func TestBound(t *testing.T) {
	for _, c := range []struct {
		b    api.Bounds
		want int
	}{
		{api.Bounds{}, 0},
		{api.Bounds{Threads: -3, Branches: 9, Versions: 9, Slots: 9, Multi: 9}, 0},
		// A point operation: 55 + 2 + 1 + 24 + 14.
		{api.Bounds{Threads: 1}, 2 * 96},
		{api.Bounds{Threads: 3}, 12 * 96},
		{api.Bounds{Threads: 1, Branches: -1, Versions: -1, Slots: -1, Multi: -1}, 2 * 96},
		{api.Bounds{Threads: 1, Versions: 1000}, 2 * 96},
		// Keys: 2, and Multi times 11 * (4 + 2 * V) + 2.
		{api.Bounds{Threads: 1, Multi: 1}, 2 * 96},
		{api.Bounds{Threads: 1, Multi: 2}, 2 * (2 + 2*(11*6+2))},
		{api.Bounds{Threads: 1, Multi: 2, Versions: 3}, 2 * (2 + 2*(11*12+2))},
		{api.Bounds{Threads: 2, Multi: 2, Versions: -7}, 6 * (2 + 2*(11*6+2))},
		// Snapshots: 2 * Slots + 5; a Collect without a branch takes less.
		{api.Bounds{Threads: 1, Slots: 45}, 2 * 96},
		{api.Bounds{Threads: 1, Slots: 46}, 2 * 97},
		// A Collect: Slots + 1, the walk, and 5 for each object; always more than a Range.
		{api.Bounds{Threads: 1, Branches: 1}, 2 * (1 + 64*9 + 5*64)},
		{api.Bounds{Threads: 1, Branches: 2, Versions: 4, Slots: 3}, 2 * (3 + 1 + 128*21 + 5*128)},
		{api.Bounds{Threads: 64, Branches: 10, Versions: 9, Slots: 256, Multi: 1024}, 64 * 65 * (2 + 1024*(11*24+2))},
	} {
		if got := progress.Bound(c.b); got != c.want {
			t.Errorf("%+v: %d, not %d", c.b, got, c.want)
		}
	}
}

// P19.1: what is above the greatest int is that; what is multiplied by 0 is not.
func TestBoundOfGreatNumbers(t *testing.T) {
	const most = math.MaxInt
	for _, c := range []struct {
		b    api.Bounds
		want int
	}{
		{api.Bounds{Threads: most, Branches: most, Versions: most, Slots: most, Multi: most}, most},
		{api.Bounds{Branches: most, Versions: most, Slots: most, Multi: most}, 0},
		{api.Bounds{Threads: most}, most},
		{api.Bounds{Threads: 1 << 31}, most},
		{api.Bounds{Threads: 1, Versions: most}, 2 * 96},
		{api.Bounds{Threads: 1, Versions: most, Multi: 1}, most},
		{api.Bounds{Threads: 1, Versions: most, Branches: 1}, most},
		{api.Bounds{Threads: 1, Slots: most}, most},
		{api.Bounds{Threads: 1, Slots: (most/2 - 5) / 2}, 2 * (2*((most/2-5)/2) + 5)},
		{api.Bounds{Threads: 1, Slots: (most/2-5)/2 + 1}, most},
		{api.Bounds{Threads: math.MinInt, Slots: math.MinInt}, 0},
		{api.Bounds{Threads: 1, Branches: math.MinInt, Versions: math.MinInt, Slots: math.MinInt, Multi: math.MinInt}, 2 * 96},
	} {
		if got := progress.Bound(c.b); got != c.want {
			t.Errorf("%+v: %d, not %d", c.b, got, c.want)
		}
	}
}

// P19.1: Constant, with slots that may not be, and of numbers that are no kind's.
func TestConstant(t *testing.T) {
	for _, c := range []struct {
		slots int
		kind  api.OpKind
		want  int
	}{
		{2, api.Snapshot, 9},
		{0, api.Snapshot, 5},
		{-4, api.Snapshot, 5},
		{math.MinInt, api.Snapshot, 5},
		{api.MaxSlots, api.Snapshot, 2*api.MaxSlots + 5},
		{api.MaxSlots + 1, api.Snapshot, 2*api.MaxSlots + 5},
		{math.MaxInt, api.Snapshot, 2*api.MaxSlots + 5},
		{2, api.Release, 2},
		{-1, api.Release, 2},
		{2, api.Get, -1},
		{2, api.Put, -1},
		{2, api.Delete, -1},
		{2, api.Swap, -1},
		{2, api.MultiGet, -1},
		{2, api.Range, -1},
		{2, api.Count, -1},
		{2, api.Collect, -1},
		{2, 0, 1},
		{2, api.Collect + 1, 1},
		{2, 255, 1},
	} {
		if got := progress.Constant(api.Config{Slots: c.slots}, c.kind); got != c.want {
			t.Errorf("%d slots, the kind %d: %d, not %d", c.slots, c.kind, got, c.want)
		}
	}
}

func did(thread, from, to int) api.Did {
	return api.Did{Span: api.Span{Thread: thread, From: from, To: to}}
}

func accesses(threads ...int) []api.Access {
	var l []api.Access
	for _, thread := range threads {
		l = append(l, api.Access{Thread: thread, Kind: api.Load})
	}
	return l
}

// P19.1: Own and Longest of results that no store made.
func TestResults(t *testing.T) {
	for i, c := range []struct {
		r       api.Result
		own     []int
		longest int
	}{
		{api.Result{}, nil, 0},
		{api.Result{Dids: []api.Did{did(0, 0, 0), did(1, 3, -1)}}, []int{1, 1}, 0},
		// Two threads in turn; the second one is pending.
		{api.Result{Dids: []api.Did{did(0, 0, 4), did(1, 1, -1)}, Trace: accesses(0, 1, 0, 1, 0, 1), Steps: []int{0, 1, 2, 3, 4, 5}}, []int{3, 3}, 4},
		// Who returned first matters to nobody else; the longest row stands at the end, at the beginning, between.
		{api.Result{Dids: []api.Did{did(0, 0, 1)}, Trace: accesses(0, 0, 1, 1, 1), Steps: []int{0, 1, 2, 3, 4}}, []int{2}, 3},
		{api.Result{Dids: []api.Did{did(0, 0, 3)}, Trace: accesses(0, 0, 0, 0, 1), Steps: []int{0, 1, 2, 3, 4}}, []int{4}, 3},
		{api.Result{Dids: []api.Did{did(0, 0, 0), did(0, 1, 3)}, Trace: accesses(0, 0, 0, 0), Steps: []int{0, 1, 2, 3}}, []int{1, 3}, 2},
		// A return at a step without an access ends no row; idle picks neither.
		{api.Result{Dids: []api.Did{did(0, 1, 1), did(1, 0, -1)}, Trace: accesses(1, 1, 1), Steps: []int{0, 2, 7}}, []int{1, 3}, 3},
		// A call of another thread with accesses at its steps.
		{api.Result{Dids: []api.Did{did(2, 0, 9)}, Trace: accesses(0, 0, 0), Steps: []int{0, 1, 2}}, []int{1}, 3},
		// Too few steps: the others are -1, at which none returned.
		{api.Result{Dids: []api.Did{did(0, 0, -1), did(0, -1, -1), did(0, -1, 0)}, Trace: accesses(0, 0, 0), Steps: []int{0}}, []int{1, 3, 3}, 2},
		{api.Result{Dids: []api.Did{did(0, 0, -1), did(0, -1, -1)}, Trace: accesses(0, 0, 0), Steps: []int{0}}, []int{1, 3}, 3},
		{api.Result{Dids: []api.Did{did(0, 0, 0)}, Trace: accesses(0, 0, 0), Steps: []int{0}}, []int{1}, 2},
		{api.Result{Dids: []api.Did{did(0, 0, 2)}, Trace: accesses(0, 0, 0)}, []int{1}, 3},
		// Too many steps.
		{api.Result{Dids: []api.Did{did(0, 0, 2)}, Trace: accesses(0), Steps: []int{0, 1, 2}}, []int{1}, 1},
		// Steps that do not rise, some twice.
		{api.Result{Dids: []api.Did{did(0, 2, 5), did(0, 4, -1), did(1, 2, 2)}, Trace: accesses(0, 1, 0, 0, 1, 0), Steps: []int{5, 2, 2, 9, 9, 4}}, []int{3, 3, 1}, 3},
		// A first step behind the last one; the greatest there are.
		{api.Result{Dids: []api.Did{did(0, 5, 2), did(0, 0, math.MaxInt), did(0, math.MinInt, 3), did(0, math.MaxInt, math.MaxInt), did(0, math.MaxInt, -1)}, Trace: accesses(0, 0, 0), Steps: []int{2, 3, math.MaxInt}}, []int{1, 3, 2, 1, 1}, 0},
	} {
		if got := progress.Own(c.r); !slices.Equal(got, c.own) {
			t.Errorf("%d: Own is %d, not %d", i, got, c.own)
		}
		if got := progress.Longest(c.r); got != c.longest {
			t.Errorf("%d: Longest is %d, not %d", i, got, c.longest)
		}
	}
}

// keyOf is a key whose mixed key has these digits first.
func keyOf(t *testing.T, digits ...int) uint64 {
	t.Helper()
	for key := range uint64(1 << 22) {
		all := true
		for level, d := range digits {
			all = all && mix.Digit(mix.Mix(key), level) == d
		}
		if all {
			return key
		}
	}
	t.Fatal("no such key")
	return 0
}

// P19.2: Measure of small scripts.
func TestMeasure(t *testing.T) {
	a, b, c := keyOf(t, 5, 1), keyOf(t, 5, 2), keyOf(t, 6)
	put := func(key uint64) api.Op { return api.Op{Kind: api.Put, Key: key, Value: 1} }
	deep := func() (uint64, uint64) {
		// Mixed keys that have their first three digits in common.
		h := mix.Mix(77)
		return 77, mix.Back(h ^ 1<<20)
	}
	d, e := deep()
	common := 0
	for mix.Digit(mix.Mix(d), common) == mix.Digit(mix.Mix(e), common) {
		common++
	}
	for i, x := range []struct {
		threads  [][]api.Op
		picks    []int
		branches int
		versions int
	}{
		{nil, nil, 1, 1},
		{[][]api.Op{{}, {}}, []int{0, 1, 5, -1}, 1, 1},
		{[][]api.Op{{put(a)}}, times(0, 100), 1, 3},
		{[][]api.Op{{put(a)}}, times(0, 5), 1, 2},
		{[][]api.Op{{put(a)}}, times(0, 4), 1, 1},
		{[][]api.Op{{put(a)}}, nil, 1, 1},
		{[][]api.Op{{put(a), put(c)}}, times(0, 100), 1, 5},
		{[][]api.Op{{put(a), put(b)}}, times(0, 100), 2, 5},
		{[][]api.Op{{put(d), put(e)}}, times(0, 200), 1 + common, 5},
		// A branch that was taken away is none that is there, and one that nobody put in is none either.
		{[][]api.Op{{put(a), put(b), {Kind: api.Delete, Key: a}}}, times(0, 100), 2, 7},
		{[][]api.Op{{put(a), put(b)}}, times(0, 8+10), 1, 3},
		// A picture takes a slot, and turns the camera on.
		{[][]api.Op{{{Kind: api.Snapshot}}}, times(0, 100), 1, 3},
		// A Cas that was not done is none; here it is that of the second Put, which tells the version's stamp then.
		{[][]api.Op{{put(a)}, {put(a)}}, []int{0, 0, 0, 0, 1, 1, 1, 1, 0, 1, 1, 1, 1}, 1, 2},
		{[][]api.Op{{put(a)}, {put(a)}}, []int{0, 0, 0, 0, 1, 1, 1, 1, 0, 1, 1, 1, 1, 1}, 1, 3},
	} {
		s := api.Script{Threads: x.threads, Picks: x.picks}
		want := api.Bounds{Threads: len(x.threads), Branches: x.branches, Versions: x.versions, Slots: 2, Multi: 4}
		if got, errno := progress.Measure(config, s); errno != api.OK || got != want {
			t.Errorf("%d: %+v, %d, not %+v", i, got, errno, want)
		}
	}
}

// P19.2: store.Run's errors, by the Config that is handed in; the script's own plays no part.
func TestMeasureOfWrongOnes(t *testing.T) {
	long := api.Script{Config: config, Threads: make([][]api.Op, api.MaxThreads+1)}
	for i, x := range []struct {
		c    api.Config
		s    api.Script
		want api.Errno
	}{
		{api.Config{}, api.Script{Config: config}, api.ErrRange},
		{api.Config{Cells: 128, Slots: 63, Stamps: 1, Multi: 1}, api.Script{Config: config}, api.ErrMemory},
		{api.Config{}, long, api.ErrRange},
		{config, long, api.ErrLong},
		{config, api.Script{Threads: [][]api.Op{make([]api.Op, api.MaxCalls+1)}}, api.ErrLong},
		{config, api.Script{Picks: make([]int, api.MaxPicks+1)}, api.ErrLong},
		{config, api.Script{}, api.OK},
	} {
		got, errno := progress.Measure(x.c, x.s)
		if errno != x.want || errno != api.OK && got != (api.Bounds{}) {
			t.Errorf("%d: %+v, %d", i, got, errno)
		}
	}
}

// P3: what is handed in stays as it is.
func TestWhatIsHandedInStays(t *testing.T) {
	s := api.Script{Config: config, Threads: [][]api.Op{{{Kind: api.MultiGet, Handle: 1, Keys: []uint64{3, 1}}}}, Picks: []int{1, 0, 0}}
	same := api.Script{Config: config, Threads: [][]api.Op{{{Kind: api.MultiGet, Handle: 1, Keys: []uint64{3, 1}}}}, Picks: []int{1, 0, 0}}
	progress.Measure(api.Config{Cells: 500, Slots: 1, Stamps: 1, Multi: 2}, s)
	if !reflect.DeepEqual(s, same) {
		t.Error(s)
	}
	r := api.Result{Dids: []api.Did{did(0, 3, 5), did(0, 1, 2)}, Trace: accesses(0, 0, 0), Steps: []int{5, 1, 3}}
	a, b := progress.Own(r), progress.Own(r)
	a[0] = 99
	if progress.Longest(r); !slices.Equal(r.Steps, []int{5, 1, 3}) || !slices.Equal(b, []int{2, 1}) {
		t.Error(r, b)
	}
}

// P19.5: no greater number makes it less.
func TestBoundRises(t *testing.T) {
	for field := range 5 {
		t.Run(strconv.Itoa(field), func(t *testing.T) {
			numbers := []int{-1, 0, 1, 2, 3, 7, 100, 1 << 20, 1 << 31, 1 << 40, 1 << 61, math.MaxInt}
			for seed := range 300 {
				var b api.Bounds
				parts := []*int{&b.Threads, &b.Branches, &b.Versions, &b.Slots, &b.Multi}
				for i, p := range parts {
					*p = numbers[(seed/(1+i*5)+i*seed)%len(numbers)]
				}
				last := -1
				for _, n := range numbers {
					*parts[field] = n
					got := progress.Bound(b)
					if got < last {
						t.Fatalf("%+v: %d, but %d of less", b, got, last)
					}
					last = got
				}
			}
		})
	}
}
