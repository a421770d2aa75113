package lin_test

import (
	"math"
	"math/rand"
	"slices"
	"testing"

	"shutter/api"
	"shutter/hist"
	"shutter/lin"
	"shutter/model"
)

// example are the histories of the chapter's example 1.
func example(third bool, a api.Answer) []api.Did {
	l := []api.Did{did(0, 0, 3, put(7, 1), none()), did(1, 1, 2, get(7), a)}
	if third {
		l = append(l, didAt(1, 1, 4, 5, get(7), none()))
	}
	return l
}

// pendingPut are the histories of the chapter's example 2.
func pendingPut(a api.Answer) []api.Did {
	return []api.Did{did(0, 0, never, put(7, 1), none()), did(1, 1, 2, get(7), a)}
}

func checkWitness(t *testing.T, l []api.Did, order []int, multi int, want api.Errno) {
	t.Helper()
	if errno := lin.Witness(l, order, multi); errno != want {
		t.Errorf("Witness(%v, %d): %d, not %d%s", order, multi, errno, want, text(l))
	}
}

func checkFind(t *testing.T, l []api.Did, multi int, want []int, wantErrno api.Errno) {
	t.Helper()
	if order, errno := lin.Find(l, multi); errno != wantErrno || !slices.Equal(order, want) {
		t.Errorf("Find: %v, %d, not %v, %d%s", order, errno, want, wantErrno, text(l))
	}
}

func checkAll(t *testing.T, l []api.Did, multi int, want int, wantErrno api.Errno) {
	t.Helper()
	if n, errno := lin.All(l, multi); errno != wantErrno || n != want {
		t.Errorf("All: %d, %d, not %d, %d%s", n, errno, want, wantErrno, text(l))
	}
}

// checkShown checks all three calls of a history that just these orders show, the least first.
func checkShown(t *testing.T, l []api.Did, multi int, all ...[]int) {
	t.Helper()
	if len(all) == 0 {
		checkFind(t, l, multi, nil, api.ErrNone)
	} else {
		checkFind(t, l, multi, all[0], api.OK)
	}
	checkAll(t, l, multi, len(all), api.OK)
	for order := range orders(len(l)) {
		want := api.ErrOrder
		if slices.ContainsFunc(all, func(o []int) bool { return slices.Equal(o, order) }) {
			want = api.OK
		}
		checkWitness(t, l, order, multi, want)
	}
}

// The chapter's examples 1 and 2.
func TestExamples(t *testing.T) {
	checkShown(t, example(false, found(1)), 4, []int{0, 1})
	checkShown(t, example(false, none()), 4, []int{1, 0})
	checkShown(t, example(true, found(1)), 4)
	checkShown(t, pendingPut(found(1)), 4, []int{0, 1})
	checkShown(t, pendingPut(none()), 4, []int{1}, []int{1, 0})
}

// P7.1, P7.2: no operations: the empty order shows it.
func TestNoOperations(t *testing.T) {
	for _, l := range [][]api.Did{nil, {}} {
		checkShown(t, l, 1, nil)
		checkWitness(t, l, []int{}, 1, api.OK)
		checkWitness(t, l, []int{0}, 1, api.ErrOrder)
		checkWitness(t, l, []int{-1}, 1, api.ErrOrder)
		checkWitness(t, l, nil, 0, api.ErrHistory)
	}
}

// notRight are histories whose spans are not right.
func notRight() map[string][]api.Did {
	return map[string][]api.Did{
		"a From below 0":            {did(0, -1, 2, get(1), none())},
		"a To below From":           {did(0, 3, 2, get(1), none())},
		"a To below -1":             {did(0, 3, -2, get(1), none())},
		"the least To":              {did(0, 0, math.MinInt, get(1), none())},
		"an index too great":        {didAt(0, 1, 0, 1, get(1), none())},
		"an index twice":            {did(0, 0, 1, get(1), none()), did(0, 2, 3, get(1), none())},
		"a call behind a pending":   {did(0, 0, never, get(1), none()), didAt(0, 1, 2, 3, get(1), none())},
		"calls that overlap":        {did(0, 0, 2, get(1), none()), didAt(0, 1, 2, 3, get(1), none())},
		"a From in common":          {did(0, 0, 2, get(1), none()), did(1, 0, 3, get(1), none())},
		"a To in common":            {did(0, 0, 2, get(1), none()), did(1, 1, 2, get(1), none())},
		"a From that is another To": {did(0, 0, 2, get(1), none()), did(1, 2, 3, get(1), none())},
	}
}

// P7.1, P7.2 and P2: ErrHistory goes ahead of all else, with zero beside it.
func TestHistoriesThatAreNotRight(t *testing.T) {
	for name, l := range notRight() {
		for _, order := range [][]int{nil, {0}, {0, 1}, {1, 0}, {5}} {
			if errno := lin.Witness(l, order, 4); errno != api.ErrHistory {
				t.Errorf("Witness, %s: %d", name, errno)
			}
		}
		for len(l) < 20 {
			checkFind(t, l, 4, nil, api.ErrHistory)
			checkAll(t, l, 4, 0, api.ErrHistory)
			l = append(l, did(5+len(l), 100+len(l), never, get(1), none()))
		}
	}
}

// P7.1, P7.2: multi must be such as model.New takes.
func TestMultiThatIsNone(t *testing.T) {
	l := example(false, found(1))
	long := slices.Repeat(l, 9) // not right either, and too long
	for _, multi := range []int{0, -1, api.MaxMulti + 1, math.MaxInt, math.MinInt} {
		checkWitness(t, l, []int{0, 1}, multi, api.ErrHistory)
		checkWitness(t, l, []int{1, 1}, multi, api.ErrHistory)
		checkFind(t, l, multi, nil, api.ErrHistory)
		checkFind(t, long, multi, nil, api.ErrHistory)
		checkAll(t, l, multi, 0, api.ErrHistory)
		checkAll(t, long, multi, 0, api.ErrHistory)
	}
	for _, multi := range []int{1, 2, api.MaxMulti} {
		checkShown(t, l, multi, []int{0, 1})
	}
}

// P7.1: orders that leave something out, have a number twice or beyond the list, or do not keep.
func TestWitnessOfOrders(t *testing.T) {
	l := []api.Did{
		did(0, 0, 1, put(7, 1), none()),
		did(1, 2, 5, get(7), found(1)),
		did(2, 3, never, put(8, 1), none()),
		did(3, 4, 6, get(8), none()),
	}
	for _, order := range [][]int{{0, 1, 3}, {0, 3, 1}, {0, 3, 2, 1}, {0, 1, 3, 2}, {0, 3, 1, 2}} {
		checkWitness(t, l, order, 4, api.OK)
	}
	wrong := map[string][]int{
		"nothing":                     nil,
		"one that returned is out":    {0, 1},
		"another one":                 {1, 3},
		"just the pending one":        {2},
		"a number twice":              {0, 1, 3, 3},
		"the pending one twice":       {0, 1, 3, 2, 2},
		"twice, and one is out":       {0, 1, 1},
		"beyond the list":             {0, 1, 3, 4},
		"far beyond":                  {0, 1, 3, math.MaxInt},
		"below it":                    {0, 1, 3, -1},
		"far below":                   {math.MinInt, 0, 1, 3},
		"ahead of what goes ahead":    {1, 0, 3},
		"the pending one ahead of it": {2, 0, 3, 1},
		"an answer that may not be":   {0, 2, 3, 1},
		"the same, elsewhere":         {0, 1, 2, 3},
		"longer than the list":        {0, 1, 3, 2, 0, 1, 3, 2},
	}
	for name, order := range wrong {
		if errno := lin.Witness(l, order, 4); errno != api.ErrOrder {
			t.Errorf("%s: %d", name, errno)
		}
	}
}

// P7.1: a pending operation is done as model.Do does it, whatever stands in its answer.
func TestAnswersOfPendingOnes(t *testing.T) {
	strange := []api.Answer{none(), found(9), failed(api.ErrMemory), failed(api.ErrOp), told(5), counted(3), paired(1, 1)}
	for _, a := range strange {
		checkShown(t, []api.Did{did(0, 0, never, put(7, 1), a), did(1, 1, 2, get(7), found(1))}, 4, []int{0, 1})
		checkShown(t, []api.Did{did(0, 0, 1, put(7, 1), none()), did(1, 2, never, remove(7), a), did(2, 3, 4, get(7), none())}, 4, []int{0, 1, 2})
		checkShown(t, []api.Did{did(0, 0, 1, put(7, 1), none()), did(1, 2, never, swap(7, 1, 2), a), did(2, 3, 4, get(7), found(2))}, 4, []int{0, 1, 2})
		checkShown(t, []api.Did{did(0, 0, 1, put(7, 1), none()), did(1, 2, never, swap(7, 3, 2), a), did(2, 3, 4, get(7), found(2))}, 4)
	}
}

// P7.1: a Snapshot that has not returned has no handle that anybody could have; one whose handle is told by another one too.
func TestPendingSnapshot(t *testing.T) {
	ask := func(a api.Answer) []api.Did {
		return []api.Did{did(0, 0, never, snapshot(), told(5)), did(1, 1, 2, count(5, 0, 9), a)}
	}
	checkShown(t, ask(counted(0)), 4)
	checkShown(t, ask(failed(api.ErrHandle)), 4, []int{0, 1}, []int{1}, []int{1, 0})
	checkShown(t, ask(failed(api.ErrStale)), 4, []int{0, 1}, []int{1}, []int{1, 0})
	zero := []api.Did{did(0, 0, never, snapshot(), none()), did(1, 1, 2, count(0, 0, 9), counted(0))}
	checkShown(t, zero, 4)
	two := []api.Did{did(0, 0, never, snapshot(), told(5)), did(1, 1, 2, snapshot(), told(5)), did(2, 3, 4, count(5, 0, 9), counted(0))}
	checkShown(t, two, 4, []int{0, 1, 2}, []int{1, 0, 2}, []int{1, 2}, []int{1, 2, 0})
}

// P7.1: handles: pictures that stay, Releases that have returned or not.
func TestHandles(t *testing.T) {
	l := []api.Did{
		did(0, 0, 9, put(7, 1), none()),
		did(1, 1, 8, snapshot(), told(5)),
		did(2, 10, 11, inRange(5, 0, 100), none()),
	}
	checkShown(t, l, 4, []int{1, 0, 2})
	l[2].Answer = paired(7, 1)
	checkShown(t, l, 4, []int{0, 1, 2})
	l[2].Answer = paired(7, 2)
	checkShown(t, l, 4)
	l[2].Answer = failed(api.ErrStale)
	checkShown(t, l, 4)
	l = append(l, did(3, 2, never, release(5), none()))
	checkShown(t, l, 4, []int{0, 1, 3, 2}, []int{1, 0, 3, 2}, []int{1, 3, 0, 2})
	l[3] = did(3, 2, 12, release(5), failed(api.ErrHandle))
	checkShown(t, l, 4)
	l[2].Answer = none()
	checkShown(t, l, 4, []int{3, 1, 0, 2})
	checkShown(t, []api.Did{l[0], l[1], did(3, 2, 12, release(5), failed(api.ErrHandle))}, 4, []int{0, 2, 1}, []int{2, 0, 1}, []int{2, 1, 0})
	again := []api.Did{did(0, 0, 1, snapshot(), told(5)), did(1, 2, 6, snapshot(), told(5)), did(2, 3, 7, release(5), none())}
	checkShown(t, again, 4, []int{0, 2, 1})
	checkShown(t, again[:2], 4)
	var free together
	free.returned(snapshot(), told(5))
	free.pending(release(5))
	free.returned(snapshot(), told(5))
	checkShown(t, free, 4, []int{0, 1, 2}, []int{2, 1, 0})
	checkShown(t, []api.Did{did(0, 0, 1, snapshot(), none())}, 4)
}

// P7.1: answers that are errors: what model.Take lets them tell, and they do nothing.
func TestAnswersThatAreErrors(t *testing.T) {
	full := []api.Did{did(0, 0, 1, put(7, 1), failed(api.ErrMemory)), did(1, 2, 3, get(7), none())}
	checkShown(t, full, 4, []int{0, 1})
	full[1].Answer = found(1)
	checkShown(t, full, 4)
	lets := map[string]api.Did{
		"Delete, ErrMemory":        did(0, 0, 1, remove(7), failed(api.ErrMemory)),
		"Swap, ErrMemory":          did(0, 0, 1, swap(7, 1, 2), failed(api.ErrMemory)),
		"Snapshot, ErrSlot":        did(0, 0, 1, snapshot(), failed(api.ErrSlot)),
		"Snapshot, ErrStamp":       did(0, 0, 1, snapshot(), failed(api.ErrStamp)),
		"Release, ErrHandle":       did(0, 0, 1, release(3), failed(api.ErrHandle)),
		"Range, ErrHandle":         did(0, 0, 1, inRange(3, 0, 9), failed(api.ErrHandle)),
		"Count, ErrStale":          did(0, 0, 1, count(3, 0, 9), failed(api.ErrStale)),
		"MultiGet, ErrStale":       did(0, 0, 1, multiGet(3, 1, 2), failed(api.ErrStale)),
		"MultiGet, ErrLong":        did(0, 0, 1, multiGet(3, 1, 2, 3), failed(api.ErrLong)),
		"no kind, ErrOp":           did(0, 0, 1, api.Op{}, failed(api.ErrOp)),
		"another no kind, ErrOp":   did(0, 0, 1, api.Op{Kind: 11}, failed(api.ErrOp)),
		"Collect, of any count":    did(0, 0, 1, collect(), counted(77)),
		"a Ref that plays no part": did(0, 0, 1, api.Op{Kind: api.Get, Key: 7, Ref: api.Ref{Set: true}}, none()),
	}
	for name, d := range lets {
		if order, errno := lin.Find([]api.Did{d}, 2); errno != api.OK || !slices.Equal(order, []int{0}) {
			t.Errorf("%s: %v, %d", name, order, errno)
		}
	}
	never := map[string]api.Did{
		"Get, ErrMemory":            did(0, 0, 1, get(7), failed(api.ErrMemory)),
		"Put, ErrStale":             did(0, 0, 1, put(7, 1), failed(api.ErrStale)),
		"Put, ErrMemory and found":  did(0, 0, 1, put(7, 1), api.Answer{Errno: api.ErrMemory, Found: true}),
		"Snapshot, ErrMemory":       did(0, 0, 1, snapshot(), failed(api.ErrMemory)),
		"Snapshot, slot and handle": did(0, 0, 1, snapshot(), api.Answer{Errno: api.ErrSlot, Handle: 3}),
		"Release, ErrStale":         did(0, 0, 1, release(3), failed(api.ErrStale)),
		"MultiGet, long, ErrHandle": did(0, 0, 1, multiGet(3, 1, 2, 3), failed(api.ErrHandle)),
		"MultiGet, short, ErrLong":  did(0, 0, 1, multiGet(3, 1, 2), failed(api.ErrLong)),
		"no kind, OK":               did(0, 0, 1, api.Op{}, none()),
		"Collect, ErrMemory":        did(0, 0, 1, collect(), failed(api.ErrMemory)),
		"Range, OK":                 did(0, 0, 1, inRange(3, 0, 9), none()),
	}
	for name, d := range never {
		if order, errno := lin.Find([]api.Did{d}, 2); errno != api.ErrNone || len(order) != 0 {
			t.Errorf("%s: %v, %d", name, order, errno)
		}
	}
}

// P7.2: multi is the one that is handed in.
func TestMultiPlaysItsPart(t *testing.T) {
	l := []api.Did{did(0, 0, 1, snapshot(), told(9)), did(0, 2, 3, multiGet(9, 1, 2, 3), none())}
	l[1].Span.Index = 1
	checkShown(t, l, 3, []int{0, 1})
	checkShown(t, l, 2)
	l[1].Answer = failed(api.ErrLong)
	checkShown(t, l, 3)
	checkShown(t, l, 2, []int{0, 1})
}

// P7.2: histories of just MaxFind and MaxAll operations, and of one more.
func TestLongHistories(t *testing.T) {
	var gets, puts together
	var order []int
	for i := range api.MaxFind + 1 {
		switch i {
		case api.MaxAll:
			checkFind(t, gets, 4, order, api.OK)
			checkAll(t, gets, 4, 40320, api.OK)
			checkAll(t, puts, 4, 109601, api.OK)
		case api.MaxAll + 1:
			checkFind(t, gets, 4, order, api.OK)
			checkAll(t, gets, 4, 0, api.ErrLong)
			checkAll(t, puts, 4, 0, api.ErrLong)
		case api.MaxFind:
			checkFind(t, gets, 4, order, api.OK)
			checkFind(t, puts, 4, nil, api.OK)
		}
		checkWitness(t, gets, order, 4, api.OK)
		gets.returned(get(uint64(i)), none())
		puts.pending(put(7, uint64(i)))
		order = append(order, i)
	}
	checkFind(t, gets, 4, nil, api.ErrLong)
	checkFind(t, puts, 4, nil, api.ErrLong)
	checkAll(t, gets, 4, 0, api.ErrLong)
	checkWitness(t, gets, order, 4, api.OK)
	checkWitness(t, gets, order[:api.MaxFind], 4, api.ErrOrder)
	checkWitness(t, puts, order, 4, api.OK)
	checkWitness(t, puts, nil, 4, api.OK)
}

// P7.1: Witness has no bound of its own.
func TestWitnessOfALongHistory(t *testing.T) {
	var ops []api.Op
	var order []int
	for i := range 5000 {
		ops = append(ops, put(uint64(i%10), uint64(i)))
		order = append(order, i)
	}
	l := inTurn(ops...)
	checkWitness(t, l, order, 4, api.OK)
	l[4000].Answer.Value++
	if lin.Witness(l, order, 4) != api.ErrOrder {
		t.Error("a false answer was taken")
	}
}

// P7.2: the least order, by the first place at which two differ; a pending operation of a smaller number stands in it, whatever it changes.
func TestFindIsTheLeast(t *testing.T) {
	idle := []api.Did{did(0, 0, never, get(7), none()), did(1, 1, 2, get(7), none())}
	checkShown(t, idle, 4, []int{0, 1}, []int{1}, []int{1, 0})
	later := []api.Did{did(1, 1, 2, get(7), none()), did(0, 0, never, get(7), none())}
	checkShown(t, later, 4, []int{0}, []int{0, 1}, []int{1, 0})
	three := []api.Did{
		did(0, 5, 9, get(7), found(2)),
		did(1, 1, 7, put(7, 2), found(1)),
		did(2, 2, never, put(7, 1), none()),
		did(3, 3, never, remove(8), none()),
	}
	checkShown(t, three, 4, []int{2, 1, 0}, []int{2, 1, 0, 3}, []int{2, 1, 3, 0}, []int{2, 3, 1, 0}, []int{3, 2, 1, 0})
}

// checkDrawn checks a history against all its orders: P7.1, P7.2, P7.3.
func checkDrawn(t *testing.T, l []api.Did) [][]int {
	t.Helper()
	kept := copyOf(l)
	all := showing(l, drawMulti)
	order, errno := lin.Find(l, drawMulti)
	n, errnoAll := lin.All(l, drawMulti)
	switch {
	case errnoAll != api.OK || n != len(all):
		t.Fatalf("All: %d, %d, not %d%s", n, errnoAll, len(all), text(l))
	case len(all) == 0 && (errno != api.ErrNone || len(order) != 0):
		t.Fatalf("Find: %v, %d, and none shows it%s", order, errno, text(l))
	case len(all) > 0 && (errno != api.OK || !slices.Equal(order, all[0])):
		t.Fatalf("Find: %v, %d, not %v%s", order, errno, all[0], text(l))
	case len(all) > 0 && lin.Witness(l, order, drawMulti) != api.OK:
		t.Fatalf("Witness of %v%s", order, text(l))
	case !sameDids(l, kept):
		t.Fatalf("it was changed%s", text(l))
	}
	return all
}

// P7.1, P7.2, P7.3: histories of all kinds, held against all orders there are.
func TestDrawnHistories(t *testing.T) {
	seen := 0
	for seed := range int64(15000) {
		r := rand.New(rand.NewSource(seed))
		l := draw(r, drawWish(r, 6, allKinds()))
		if len(checkDrawn(t, l)) > 1 {
			seen++
		}
		for order := range orders(min(len(l), 4)) {
			want := api.ErrOrder
			if shows(l, order, drawMulti) {
				want = api.OK
			}
			checkWitness(t, l, order, drawMulti, want)
		}
	}
	if seen < 1000 {
		t.Error("too few have several orders:", seen)
	}
}

// P7.1, P7.2, P7.3: histories of few kinds, all of whose operations overlap.
func TestDrawnHistoriesThatOverlap(t *testing.T) {
	mixes := [][]api.OpKind{
		fourKinds(),
		{api.Put, api.Swap, api.Get},
		{api.Put, api.Snapshot, api.Range},
		{api.Put, api.Delete, api.Snapshot, api.MultiGet, api.Count},
		{api.Put, api.Snapshot, api.Release, api.Count},
		{api.Snapshot, api.Release, api.Range},
	}
	for seed := range int64(6000) {
		r := rand.New(rand.NewSource(seed))
		w := drawWish(r, 6, mixes[r.Intn(len(mixes))])
		w.threads = 6
		checkDrawn(t, draw(r, w))
	}
}

// P7.2: longer ones, held against a search that leaves nothing out.
func TestDrawnLongHistories(t *testing.T) {
	shown, not := 0, 0
	for seed := range int64(1500) {
		r := rand.New(rand.NewSource(seed))
		w := drawWish(r, api.MaxFind, allKinds())
		if r.Intn(2) == 0 {
			w.kinds = fourKinds()
		}
		w.wrong = []int{0, 3}[r.Intn(2)]
		w.calls = 8 + r.Intn(api.MaxFind-7)
		l := draw(r, w)
		want, ok := plainFind(l, drawMulti)
		order, errno := lin.Find(l, drawMulti)
		if ok != (errno == api.OK) || !ok && errno != api.ErrNone || !slices.Equal(order, want) {
			t.Fatalf("seed %d: Find: %v, %d, not %v%s", seed, order, errno, want, text(l))
		}
		if ok {
			shown++
		} else {
			not++
		}
	}
	if shown < 200 || not < 200 {
		t.Error(shown, not)
	}
}

// P7.4: operations that have not returned and change nothing may be left out.
func TestLeavingOutWhatChangesNothing(t *testing.T) {
	left := 0
	for seed := range int64(3000) {
		r := rand.New(rand.NewSource(seed))
		w := drawWish(r, 5, allKinds())
		w.wrong = 0
		w.pending = 97
		l := draw(r, w)
		for _, order := range showing(l, drawMulti) {
			short := withoutIdle(l, order)
			left += len(order) - len(short)
			checkWitness(t, l, short, drawMulti, api.OK)
		}
	}
	if left < 1000 {
		t.Error("too few were left out:", left)
	}
}

// withoutIdle is the order without those that have not returned and change nothing where they stand.
func withoutIdle(l []api.Did, order []int) []int {
	m, _ := model.New(drawMulti)
	var short []int
	for _, number := range order {
		before := m.Fork()
		next(m, l[number])
		if l[number].Span.To >= 0 || !m.Same(before) {
			short = append(short, number)
		}
	}
	return short
}

// P7.5: where no two overlap and all have returned there is one order at most.
func TestOneBehindTheOther(t *testing.T) {
	shown := 0
	for seed := range int64(2000) {
		r := rand.New(rand.NewSource(seed))
		w := drawWish(r, api.MaxAll, allKinds())
		w.threads, w.pending = 1, 0
		l := draw(r, w)
		for i := range l {
			l[i].Span.Thread, l[i].Span.Index = l[i].Span.Thread+i%3, i/3
		}
		n, errno := lin.All(l, drawMulti)
		order, errnoFind := lin.Find(l, drawMulti)
		if errno != api.OK || n > 1 || (n == 1) != (errnoFind == api.OK) {
			t.Fatalf("All: %d, %d%s", n, errno, text(l))
		}
		if n == 1 {
			shown++
			for place, number := range order {
				if place != number {
					t.Fatalf("%v%s", order, text(l))
				}
			}
		}
	}
	if shown < 500 {
		t.Error("too few were shown:", shown)
	}
}

// P7.6: each beginning of what is linearizable is so, up to a step at which no Snapshot is on its way.
func TestBeginnings(t *testing.T) {
	cuts := 0
	for seed := range int64(2000) {
		r := rand.New(rand.NewSource(seed))
		w := drawWish(r, 7, allKinds())
		w.wrong = 0
		l := draw(r, w)
		if _, errno := lin.Find(l, drawMulti); errno != api.OK {
			continue
		}
		for step := -1; step <= lastStep(l)+1; step++ {
			if snapshotOnItsWay(l, step) {
				continue
			}
			cuts++
			if _, errno := lin.Find(beginning(l, step), drawMulti); errno != api.OK {
				t.Fatalf("up to %d: %d%s", step, errno, text(l))
			}
		}
	}
	if cuts < 5000 {
		t.Error("too few beginnings:", cuts)
	}
}

func lastStep(l []api.Did) int {
	last := 0
	for _, d := range l {
		last = max(last, d.Span.From, d.Span.To)
	}
	return last
}

func snapshotOnItsWay(l []api.Did, step int) bool {
	return slices.ContainsFunc(l, func(d api.Did) bool {
		return d.Op.Kind == api.Snapshot && d.Span.From <= step && (d.Span.To < 0 || d.Span.To > step)
	})
}

// beginning is a history up to a step; what had not returned by then has no answer.
func beginning(l []api.Did, step int) []api.Did {
	var part []api.Did
	for _, d := range l {
		for _, span := range hist.Cut([]api.Span{d.Span}, step) {
			if span.To < 0 {
				d.Answer = none()
			}
			d.Span = span
			part = append(part, d)
		}
	}
	return part
}

// P3: what is handed in stays, spare room behind its end too.
func TestNothingIsChanged(t *testing.T) {
	room := append(pendingPut(found(1)), did(9, 90, 91, multiGet(1, 2, 3), paired(4, 5)))
	room[0].Op.Keys, room[1].Answer.Pairs = []uint64{1, 2, 3}[:1], make([]api.Pair, 0, 4)
	kept := copyOf(room)
	order := []int{0, 1, 77, 78}
	for range 2 {
		checkWitness(t, room[:2], order[:2], 4, api.OK)
		checkFind(t, room[:2], 4, []int{0, 1}, api.OK)
		checkAll(t, room[:2], 4, 1, api.OK)
	}
	if !sameDids(room, kept) || !slices.Equal(order, []int{0, 1, 77, 78}) {
		t.Error("something was changed")
	}
	found, _ := lin.Find(room[:2], 4)
	found[0] = 55
	checkFind(t, room[:2], 4, []int{0, 1}, api.OK)
}
