package witness_test

import (
	"math"
	"reflect"
	"slices"
	"testing"

	"shutter/api"
	"shutter/script"
	"shutter/store"
	"shutter/witness"
)

var config = api.Config{Cells: 2000, Slots: 2, Stamps: 100, Multi: 4}

func times(thread, n int) []int { return slices.Repeat([]int{thread}, n) }

func run(t *testing.T, s api.Script) api.Result {
	t.Helper()
	r, errno := store.Run(s)
	if errno != api.OK {
		t.Fatal(errno)
	}
	return r
}

// parse is the script of config with these lines.
func parse(t *testing.T, l ...string) api.Script {
	t.Helper()
	text := "config 2000 2 100 4\n"
	for _, line := range l {
		text += line + "\n"
	}
	s, errno, line := script.Parse(text)
	if errno != api.OK {
		t.Fatal(errno, "at", line)
	}
	return s
}

// check checks what all three functions tell of a result.
func check(t *testing.T, r api.Result, stamps []witness.Stamp, points []witness.Point, order []int) {
	t.Helper()
	if got, errno := witness.Stamps(config, r); errno != api.OK || !slices.Equal(got, stamps) {
		t.Errorf("stamps %+v, %d, not %+v", got, errno, stamps)
	}
	if got, errno := witness.Points(config, r); errno != api.OK || !slices.Equal(got, points) {
		t.Errorf("points %+v, %d, not %+v", got, errno, points)
	}
	if got, errno := witness.Order(config, r); errno != api.OK || !slices.Equal(got, order) {
		t.Errorf("the order %d, %d, not %d", got, errno, order)
	}
}

func at(step, rank int) witness.Point { return witness.Point{Step: step, Rank: rank, Some: true} }

// P18.2: the chapter's first example: a Put, and a Get behind it.
func TestPutAndGet(t *testing.T) {
	s := parse(t, "thread", "put 7 1", "get 7")
	s.Picks = times(0, 13)
	r := run(t, s)
	stamps, _ := witness.Stamps(config, r)
	if len(stamps) != 1 || stamps[0].Version == 0 {
		t.Fatal(stamps)
	}
	check(t, r, []witness.Stamp{{Version: stamps[0].Version, Stamp: 1, Installed: 4, Read: 6}}, []witness.Point{at(6, 0), at(8, 1)}, []int{0, 1})
}

// P18.2: the chapter's second example: a Get that looked ahead of the step at which the stamp was read is done right behind that.
func TestGetAheadOfTheStamp(t *testing.T) {
	s := parse(t, "thread", "put 7 1", "thread", "get 7")
	s.Picks = slices.Concat(times(0, 5), times(1, 1), times(0, 3), times(1, 9))
	r := run(t, s)
	if len(r.Dids) != 2 || r.Dids[1].Answer.Value != 1 {
		t.Fatalf("%+v", r.Dids)
	}
	stamps, _ := witness.Stamps(config, r)
	version := stamps[0].Version
	check(t, r, []witness.Stamp{{Version: version, Stamp: 1, Installed: 4, Read: 7}}, []witness.Point{at(7, 0), at(7, 1)}, []int{0, 1})
	// Who helps reads it himself.
	s.Picks = slices.Concat(times(0, 5), times(1, 9))
	r = run(t, s)
	check(t, r, []witness.Stamp{{Version: version, Stamp: 1, Installed: 4, Read: 7}}, []witness.Point{at(7, 0), at(7, 1)}, []int{0, 1})
	// As long as nobody has set it, there is no point.
	s.Picks = slices.Concat(times(0, 5), times(1, 3))
	r = run(t, s)
	check(t, r, []witness.Stamp{{Version: version, Installed: 4, Read: -1}}, []witness.Point{{}, {}}, nil)
}

// P18.2: a picture is taken where the camera is turned on, by whomever; a change of the same stamp is ahead of it.
func TestPictures(t *testing.T) {
	s := parse(t, "thread", "snapshot", "release @0.0", "thread", "snapshot", "thread", "release 3")
	// Both have read the stamp 1; the second one turns the camera on.
	s.Picks = slices.Concat(times(0, 5), times(1, 8), times(0, 2), times(2, 1), times(0, 2))
	r := run(t, s)
	if len(r.Dids) != 4 || r.Dids[1].Span.To != 12 {
		t.Fatalf("%+v", r.Dids)
	}
	turned := 0
	for i, a := range r.Trace {
		if a.Kind == api.Cas && a.Addr == 1 && a.Ok {
			turned = r.Steps[i]
		}
	}
	check(t, r, nil, []witness.Point{at(turned, 0), at(turned, 0), at(15, 1), at(17, 1)}, []int{0, 1, 2, 3})
}

// access is of the thread 0, in a step of its own.
func load(addr, got uint64) api.Access { return api.Access{Kind: api.Load, Addr: addr, Got: got} }
func cas(addr, a, b uint64) api.Access {
	return api.Access{Kind: api.Cas, Addr: addr, A: a, B: b, Ok: true}
}
func noCas(addr, a, b uint64) api.Access { return api.Access{Kind: api.Cas, Addr: addr, A: a, B: b} }
func alloc(addr uint64, n int) api.Access {
	return api.Access{Kind: api.Alloc, Addr: addr, Values: make([]uint64, n)}
}
func by(thread int, a api.Access) api.Access {
	a.Thread = thread
	return a
}

// made is a result with these accesses, each in the step of its number, and one Did of the thread 0 that has them all.
func made(kind api.OpKind, l ...api.Access) api.Result {
	r := api.Result{Trace: l, Dids: []api.Did{{Span: api.Span{From: 0, To: len(l)}, Op: api.Op{Kind: kind}}}}
	for i := range l {
		r.Steps = append(r.Steps, i)
	}
	return r
}

// P18.1, P18.2: results that store.Run did not make: what is an object, what is a version, when its stamp is set and read.
func TestMadeStamps(t *testing.T) {
	type stamps = []witness.Stamp
	for i, c := range []struct {
		l    []api.Access
		want stamps
	}{
		{nil, nil},
		// The cells from 2 to 65 are objects, and no others.
		{[]api.Access{cas(1, 0, 100), cas(66, 0, 100), cas(0, 0, 100)}, nil},
		{[]api.Access{cas(2, 0, 100), cas(65, 0, 200)}, stamps{{100, 0, 0, -1}, {200, 0, 1, -1}}},
		// So are those of records of 64 cells, from when they were handed out.
		{[]api.Access{cas(70, 0, 100), alloc(70, 64), cas(70, 0, 200), cas(133, 0, 300), cas(134, 0, 400)}, stamps{{200, 0, 2, -1}, {300, 0, 3, -1}}},
		{[]api.Access{alloc(70, 63), cas(70, 0, 100), alloc(200, 65), cas(200, 0, 100), alloc(0, 64), cas(1, 0, 100), cas(66, 0, 100)}, nil},
		{[]api.Access{{Kind: api.Store, Addr: 70, Values: make([]uint64, 64)}, cas(70, 0, 100)}, nil},
		{[]api.Access{cas(2, 0, 100), alloc(2, 64), cas(2, 0, 200), alloc(60, 64), cas(65, 0, 300)}, stamps{{100, 0, 0, -1}, {200, 0, 2, -1}, {300, 0, 4, -1}}},
		// A Cas that was not done, one to 0, and other accesses install nothing.
		{[]api.Access{noCas(2, 0, 100), cas(2, 100, 0), {Kind: api.Store, Addr: 2, A: 100, B: 100, Ok: true}, {Kind: api.Add, Addr: 2, B: 100, Ok: true}, {Kind: 9, Addr: 2, B: 100, Ok: true}}, nil},
		// The stamp is that of the first Cas from 0, behind, done; read by the last Load ahead of that.
		{[]api.Access{load(1, 5), load(1, 6), cas(2, 0, 100), cas(101, 0, 6)}, stamps{{100, 6, 2, 1}}},
		{[]api.Access{cas(2, 0, 100), load(1, 5), cas(101, 0, 6), load(1, 7), cas(101, 0, 7)}, stamps{{100, 6, 0, 1}}},
		{[]api.Access{load(1, 5), cas(101, 0, 6), cas(2, 0, 100)}, stamps{{100, 0, 2, -1}}},
		{[]api.Access{cas(2, 0, 100), load(1, 5), noCas(101, 0, 6), cas(101, 1, 6), cas(100, 0, 6), cas(102, 0, 6)}, stamps{{100, 0, 0, -1}}},
		{[]api.Access{cas(2, 0, 100), load(1, 5), {Kind: api.Store, Addr: 101, B: 6, Ok: true}}, stamps{{100, 0, 0, -1}}},
		{[]api.Access{cas(2, 0, 100), load(1, 5), cas(101, 0, 0)}, stamps{{100, 0, 0, 1}}},
		// Without a Load by the same thread it is not set, even if another Cas comes.
		{[]api.Access{cas(2, 0, 100), by(1, load(1, 5)), cas(101, 0, 6), load(1, 5), cas(101, 0, 6)}, stamps{{100, 0, 0, -1}}},
		{[]api.Access{cas(2, 0, 100), load(1, 5), by(1, load(1, 5)), load(2, 5), {Kind: api.Add, Addr: 1}, by(1, cas(101, 0, 6))}, stamps{{100, 6, 0, 2}}},
		// An address that was installed twice.
		{[]api.Access{load(1, 5), cas(2, 0, 100), cas(3, 0, 100), cas(101, 0, 6)}, stamps{{100, 6, 1, 0}, {100, 6, 2, 0}}},
		{[]api.Access{load(1, 5), cas(2, 0, 100), cas(101, 0, 6), cas(3, 0, 100), load(1, 5), cas(101, 0, 7), cas(101, 0, 8)}, stamps{{100, 6, 1, 0}, {100, 7, 3, 4}}},
		// A Cas that sets one stamp, and installs another version; that it installs is not behind itself.
		{[]api.Access{load(1, 5), cas(2, 0, 2), cas(3, 0, 300), cas(301, 0, 6)}, stamps{{2, 300, 1, 0}, {300, 6, 2, 0}}},
		{[]api.Access{load(1, 5), cas(3, 0, 2), cas(4, 0, 100)}, stamps{{2, 0, 1, -1}, {100, 0, 2, -1}}},
		// Numbers go round.
		{[]api.Access{load(1, 5), cas(2, 0, math.MaxUint64), cas(0, 0, 6)}, stamps{{math.MaxUint64, 6, 1, 0}}},
		{[]api.Access{alloc(math.MaxUint64, 64), cas(math.MaxUint64, 0, 100), cas(0, 0, 200), cas(62, 0, 300)}, stamps{{100, 0, 1, -1}, {200, 0, 2, -1}, {300, 0, 3, -1}}},
	} {
		got, errno := witness.Stamps(config, made(api.Get, c.l...))
		if errno != api.OK || !slices.Equal(got, c.want) {
			t.Errorf("%d: %+v, %d, not %+v", i, got, errno, c.want)
		}
	}
}

// P18.1, P18.2: points of results that store.Run did not make.
func TestMadePoints(t *testing.T) {
	changes, snapshot := []api.OpKind{api.Get, api.Put, api.Delete, api.Swap}, []api.OpKind{api.Snapshot}
	queries := []api.OpKind{api.MultiGet, api.Range, api.Count, api.Collect, 0, 11, 255}
	all := slices.Concat(changes, snapshot, queries, []api.OpKind{api.Release})
	for i, c := range []struct {
		kinds []api.OpKind
		l     []api.Access
		want  witness.Point
	}{
		{changes, nil, at(0, 1)},
		{queries, nil, at(0, 1)},
		{snapshot, []api.Access{load(70, 1), load(2, 0)}, at(2, 0)},
		{[]api.OpKind{api.Release}, []api.Access{load(70, 1), load(2, 0)}, at(2, 1)},
		{queries, []api.Access{load(1, 1), load(2, 0), cas(1, 1, 2)}, at(0, 1)},
		// Who installed a version: where its stamp was read, of the last one; else he has no point.
		{all, []api.Access{load(70, 1), load(1, 5), cas(2, 0, 100), cas(101, 0, 5), load(2, 100)}, at(1, 0)},
		{all, []api.Access{cas(2, 0, 100), load(1, 5), cas(101, 0, 5), cas(2, 0, 200), load(1, 5), cas(201, 0, 5)}, at(4, 0)},
		{all, []api.Access{cas(2, 0, 100), load(1, 5), cas(101, 0, 5), cas(2, 0, 200), load(1, 5)}, witness.Point{}},
		// His last Load of an object; or where the stamp was read of what it told.
		{changes, []api.Access{load(2, 0), load(70, 1), load(3, 0), load(1, 1)}, at(2, 1)},
		{changes, []api.Access{load(1, 1), load(70, 1), noCas(2, 0, 100), {Kind: api.Add, Addr: 2}}, at(0, 1)},
		{changes, []api.Access{by(1, cas(2, 0, 100)), load(3, 100), by(1, load(1, 5)), by(1, cas(101, 0, 5))}, at(2, 1)},
		{changes, []api.Access{load(2, 100), by(1, cas(2, 0, 100)), by(1, load(1, 5)), by(1, cas(101, 0, 5))}, at(0, 1)},
		{changes, []api.Access{by(1, cas(2, 0, 100)), load(2, 100), by(1, load(1, 5))}, at(1, 1)},
		{changes, []api.Access{by(1, load(1, 5)), by(1, cas(2, 0, 100)), by(1, cas(101, 0, 5)), load(2, 100)}, at(3, 1)},
		{changes, []api.Access{by(1, cas(2, 0, 100)), by(1, cas(3, 0, 100)), load(2, 100), by(1, load(1, 5)), by(1, cas(101, 0, 5)), by(1, cas(4, 0, 100)), by(1, load(1, 5)), by(1, cas(101, 0, 5))}, at(3, 1)},
		{changes, []api.Access{by(1, cas(2, 0, 100)), by(1, load(1, 5)), by(1, cas(101, 0, 5)), by(1, cas(2, 0, 100)), load(2, 100), by(1, load(1, 5)), by(1, cas(101, 0, 5))}, at(5, 1)},
		// A Snapshot: the first Cas, done, from what the last Load told.
		{snapshot, []api.Access{load(1, 4), load(1, 5), noCas(1, 5, 6), cas(1, 4, 5), by(1, cas(1, 5, 9)), cas(1, 5, 6)}, at(4, 0)},
		{snapshot, []api.Access{by(1, cas(1, 5, 6)), load(1, 5)}, at(0, 0)},
		{snapshot, []api.Access{load(1, 5), noCas(1, 5, 6), by(1, load(1, 7)), cas(1, 6, 7), cas(1, 7, 8)}, at(5, 0)},
		{snapshot, []api.Access{cas(1, 0, 1), by(1, load(1, 0))}, at(2, 0)},
	} {
		for _, kind := range c.kinds {
			r := made(kind, c.l...)
			want := c.want
			if got, errno := witness.Points(config, r); errno != api.OK || !slices.Equal(got, []witness.Point{want}) {
				t.Errorf("%d, of the kind %d: %+v, %d, not %+v", i, kind, got, errno, want)
			}
			// With an error it is its return, and if it is pending, none, but for who installed a version.
			installed := slices.ContainsFunc(c.l, func(a api.Access) bool { return a.Thread == 0 && a.Ok && a.B >= 100 })
			if r.Dids[0].Answer.Errno = api.ErrMemory; !installed {
				want = at(len(c.l), 1)
			}
			if got, errno := witness.Points(config, r); errno != api.OK || !slices.Equal(got, []witness.Point{want}) {
				t.Errorf("%d, of the kind %d, with an error: %+v, %d, not %+v", i, kind, got, errno, want)
			}
			if r.Dids[0].Span.To = -1; !installed {
				want = witness.Point{}
			}
			if got, errno := witness.Points(config, r); errno != api.OK || !slices.Equal(got, []witness.Point{want}) {
				t.Errorf("%d, of the kind %d, pending: %+v, %d, not %+v", i, kind, got, errno, want)
			}
		}
	}
}

// P18.2: an access is a Did's that is of its thread and in its time.
func TestWhoseAccess(t *testing.T) {
	get := func(thread, index, from, to int) api.Did {
		return api.Did{Span: api.Span{Thread: thread, Index: index, From: from, To: to}, Op: api.Op{Kind: api.Get}}
	}
	r := api.Result{
		Dids:  []api.Did{get(0, 0, 2, 4), get(-7, 0, 3, 8), get(0, 1, 6, 7), get(0, 2, 9, 9), get(0, 3, 10, 20), get(5, 0, 11, 12)},
		Trace: []api.Access{load(2, 0), load(2, 0), load(2, 0), load(2, 0), load(2, 0), by(-7, load(2, 0)), load(2, 0), load(2, 0), by(5, load(2, 0))},
		Steps: []int{1, 2, 4, 5, 6, 8, 10, 21, 30},
	}
	check(t, r, nil, []witness.Point{at(4, 1), at(8, 1), at(6, 1), at(9, 1), at(10, 1), at(11, 1)}, []int{0, 2, 1, 3, 4, 5})
}

// P18.2: the order is by steps, then by ranks, then by numbers; who has no point is not in it.
func TestOrder(t *testing.T) {
	did := func(thread, from, to int, kind api.OpKind) api.Did {
		return api.Did{Span: api.Span{Thread: thread, From: from, To: to}, Op: api.Op{Kind: kind}}
	}
	r := api.Result{
		Dids: []api.Did{
			did(5, 0, 40, api.Get), did(4, 1, 41, api.Snapshot), did(3, 2, 42, api.Put), did(2, 3, 43, api.Snapshot), did(1, 4, -1, api.Put), did(0, 5, -1, api.Get), did(6, 6, 39, api.Release),
		},
		Trace: []api.Access{
			by(4, load(1, 1)), by(2, load(1, 1)), by(3, cas(2, 0, 100)), by(5, load(2, 100)), by(9, load(1, 1)), by(9, cas(101, 0, 1)), by(9, cas(1, 1, 2)), by(1, cas(3, 0, 200)),
		},
		Steps: []int{10, 11, 12, 13, 14, 15, 16, 17},
	}
	check(t, r, []witness.Stamp{{100, 1, 12, 14}, {200, 0, 17, -1}},
		[]witness.Point{at(14, 1), at(16, 0), at(14, 0), at(16, 0), {}, {}, at(39, 1)}, []int{2, 0, 1, 3, 6})
}

// P18.1: Configs that may not be, and results that are none.
func TestWrongResults(t *testing.T) {
	good := made(api.Get, load(2, 0), load(2, 0))
	change := func(f func(r *api.Result)) api.Result {
		r := made(api.Get, load(2, 0), load(2, 0))
		f(&r)
		return r
	}
	small := api.Config{Cells: 128, Slots: 63, Stamps: 1, Multi: 1}
	for i, c := range []struct {
		config api.Config
		result api.Result
		errno  api.Errno
	}{
		{config, good, api.OK},
		{config, api.Result{}, api.OK},
		{api.Config{}, good, api.ErrRange},
		{small, good, api.ErrMemory},
		{small, change(func(r *api.Result) { r.Steps = nil }), api.ErrMemory},
		{config, change(func(r *api.Result) { r.Steps = nil }), api.ErrHistory},
		{config, change(func(r *api.Result) { r.Steps = []int{0} }), api.ErrHistory},
		{config, change(func(r *api.Result) { r.Steps = []int{0, 1, 2} }), api.ErrHistory},
		{config, change(func(r *api.Result) { r.Trace = nil }), api.ErrHistory},
		{config, change(func(r *api.Result) { r.Steps = []int{0, 0} }), api.ErrHistory},
		{config, change(func(r *api.Result) { r.Steps = []int{1, 0} }), api.ErrHistory},
		{config, change(func(r *api.Result) { r.Steps = []int{-1, 0} }), api.ErrHistory},
		{config, change(func(r *api.Result) { r.Steps = []int{math.MinInt, math.MaxInt} }), api.ErrHistory},
		{config, change(func(r *api.Result) { r.Steps = []int{7, math.MaxInt} }), api.OK},
		{config, change(func(r *api.Result) { r.Dids[0].Span.From = -1 }), api.ErrHistory},
		{config, change(func(r *api.Result) { r.Dids[0].Span.To = -2 }), api.ErrHistory},
		{config, change(func(r *api.Result) { r.Dids[0].Span.Index = 1 }), api.ErrHistory},
		{config, change(func(r *api.Result) { r.Dids = append(r.Dids, r.Dids[0]) }), api.ErrHistory},
	} {
		stamps, errno := witness.Stamps(c.config, c.result)
		if errno != c.errno || errno != api.OK && len(stamps) != 0 {
			t.Errorf("%d: stamps %+v, %d, not %d", i, stamps, errno, c.errno)
		}
		points, errno := witness.Points(c.config, c.result)
		if errno != c.errno || errno != api.OK && len(points) != 0 {
			t.Errorf("%d: points %+v, %d, not %d", i, points, errno, c.errno)
		}
		order, errno := witness.Order(c.config, c.result)
		if errno != c.errno || errno != api.OK && len(order) != 0 {
			t.Errorf("%d: the order %d, %d, not %d", i, order, errno, c.errno)
		}
	}
}

// P3: what is handed in stays as it is.
func TestResultsStay(t *testing.T) {
	draw := func() api.Result {
		s, errno := script.Draw(5, config, 3, 5, 300)
		if errno != api.OK {
			t.Fatal(errno)
		}
		return run(t, s)
	}
	r := draw()
	stamps, _ := witness.Stamps(config, r)
	points, _ := witness.Points(config, r)
	order, _ := witness.Order(config, r)
	if !reflect.DeepEqual(r, draw()) {
		t.Error("the result has changed")
	}
	wants := [3]any{slices.Clone(stamps), slices.Clone(points), slices.Clone(order)}
	clear(stamps)
	clear(points)
	clear(order)
	stamps, _ = witness.Stamps(config, r)
	points, _ = witness.Points(config, r)
	order, _ = witness.Order(config, r)
	if got := [3]any{stamps, points, order}; !reflect.DeepEqual(got, wants) || len(stamps) == 0 || len(order) == 0 {
		t.Errorf("%+v, and then %+v", wants, got)
	}
}
