package replay_test

import (
	"math"
	"reflect"
	"slices"
	"testing"

	"shutter/api"
	"shutter/hist"
	"shutter/replay"
	"shutter/script"
	"shutter/store"
)

// scriptOf is a script of a text, with a store of so many cells.
func scriptOf(t *testing.T, text string, picks ...int) api.Script {
	t.Helper()
	s, errno, line := script.Parse("config 2000 2 100 4\n" + text)
	if errno != api.OK {
		t.Fatal(errno, line)
	}
	s.Picks = picks
	return s
}

// textOf tells scripts apart; it is the same of lists that are nil and empty.
func textOf(t *testing.T, s api.Script) string {
	t.Helper()
	text, errno := script.Print(s)
	if errno != api.OK {
		t.Fatal(errno)
	}
	return text
}

func run(t *testing.T, s api.Script) api.Result {
	t.Helper()
	r, errno := store.Run(s)
	if errno != api.OK {
		t.Fatal(errno)
	}
	return r
}

// drawn are scripts of many kinds, with picks that name no thread among them.
func drawn(t *testing.T, count int) []api.Script {
	t.Helper()
	var l []api.Script
	for seed := range uint64(count) {
		c := config()
		if seed%7 == 3 {
			c.Cells = 140
		}
		s, errno := script.Draw(seed, c, 1+int(seed%4), int(seed%5), int(seed*7%120))
		if errno != api.OK {
			t.Fatal(errno)
		}
		for i := range s.Picks {
			if i%11 == 5 {
				s.Picks[i] = []int{-1, 64, math.MinInt, math.MaxInt, len(s.Threads)}[i%5]
			}
		}
		l = append(l, s)
	}
	return l
}

// withPicks is the script with other picks.
func withPicks(s api.Script, picks []int) api.Script {
	s.Picks = picks
	return s
}

// spokenTight is the picks without those of which nothing comes: no call begins, no access is made.
func spokenTight(t *testing.T, s api.Script) []int {
	var l []int
	ahead := run(t, withPicks(s, nil))
	for i, pick := range s.Picks {
		behind := run(t, withPicks(s, s.Picks[:i+1]))
		if len(behind.Dids) > len(ahead.Dids) || len(behind.Trace) > len(ahead.Trace) {
			l = append(l, pick)
		}
		ahead = behind
	}
	return l
}

// P21.3: idle picks, of threads that are none, have no calls, or have done them all; a step without an access is none.
func TestTight(t *testing.T) {
	for _, c := range []struct {
		text        string
		picks, want []int
	}{
		{"thread\nget 1\nthread\nget 2\n", []int{5, 1, 1, 0}, []int{1, 0}},
		{"thread\nget 1\nthread\nget 2\n", nil, nil},
		{"", []int{0, 1, -1}, nil},
		{"thread\nthread\nget 2\n", []int{0, 0, 1, 0, 1}, []int{1}},
		{"thread\ncount 0 0 9\nrange @0.5 0 9\nget 1\n", []int{-1, 0, 0, 0, 0}, []int{0, 0, 0}},
		{"thread\nput 7 1\n", []int{0, 3, 0, 0, math.MaxInt, 0, 0, 0, 0}, []int{0, 0, 0, 0, 0, 0, 0}},
		{"thread\nput 7 1\n", slices.Repeat([]int{0}, 12), slices.Repeat([]int{0}, 8)},
	} {
		s := scriptOf(t, c.text, c.picks...)
		got, errno := replay.Tight(s)
		if errno != api.OK || textOf(t, got) != textOf(t, withPicks(s, c.want)) {
			t.Errorf("%q %d: %d %d", c.text, c.picks, got.Picks, errno)
		}
	}
}

// P21.3, P21.6: Tight tells the same, by picks that are not idle; Tight of it is the same.
func TestTightOfAny(t *testing.T) {
	for _, s := range drawn(t, 150) {
		tight, errno := replay.Tight(s)
		if errno != api.OK || textOf(t, tight) != textOf(t, withPicks(s, spokenTight(t, s))) {
			t.Fatalf("%s: %d %d", textOf(t, s), tight.Picks, errno)
		}
		a, b := run(t, s), run(t, tight)
		if !reflect.DeepEqual(a.Trace, b.Trace) || !reflect.DeepEqual(answers(a), answers(b)) {
			t.Fatalf("%s", textOf(t, s))
		}
		again, errno := replay.Tight(tight)
		if errno != api.OK || textOf(t, again) != textOf(t, tight) {
			t.Fatalf("%s: %d %d", textOf(t, tight), again.Picks, errno)
		}
	}
}

// answers are the Dids without their steps, but for whether they have returned.
func answers(r api.Result) []api.Did {
	l := slices.Clone(r.Dids)
	for i := range l {
		l[i].Span.From, l[i].Span.To = 0, min(l[i].Span.To, 0)
	}
	return l
}

// spokenSerial is picks for each call till it has returned, by the order of first steps.
func spokenSerial(t *testing.T, s api.Script) []int {
	var l []int
	returned := func(span api.Span) bool {
		return slices.ContainsFunc(run(t, withPicks(s, l)).Dids, func(d api.Did) bool {
			return d.Span.Thread == span.Thread && d.Span.Index == span.Index && d.Span.To >= 0
		})
	}
	for _, d := range run(t, s).Dids {
		for !returned(d.Span) {
			l = append(l, d.Span.Thread)
		}
	}
	return l
}

// P21.3: calls that got between one another, that are pending, that have not begun; and a handle that is told only in Serial.
func TestSerial(t *testing.T) {
	repeat := func(pairs ...int) []int {
		var l []int
		for i := 0; i < len(pairs); i += 2 {
			l = append(l, slices.Repeat(pairs[i:i+1], pairs[i+1])...)
		}
		return l
	}
	for _, c := range []struct {
		text        string
		picks, want []int
	}{
		{"thread\nput 7 1\nthread\nput 7 2\n", nil, nil},
		{"thread\nput 7 1\nthread\nget 8\n", []int{1, 0}, repeat(1, 1, 0, 8)},
		{"thread\nput 7 1\nthread\nget 8\n", []int{0, 1}, repeat(0, 8, 1, 1)},
		{"thread\nput 7 1\nget 7\nthread\nget 8\n", []int{9, 0, 1, -1}, repeat(0, 8, 1, 1)},
		{"thread\nput 7 1\nthread\nput 7 2\n", []int{0, 1, 0, 1, 0, 1, 0, 1, 0, 1, 0, 1, 0, 1, 0, 1, 0, 1, 0, 1, 0, 1}, nil},
		{"thread\nsnapshot\nthread\ncount @0.0 0 9\n", []int{1, 0}, repeat(1, 1, 0, 7)},
		{"thread\nsnapshot\nthread\ncount @0.0 0 9\n", []int{0, 1}, repeat(0, 7, 1, 66)},
		{"thread\nsnapshot\ncollect\nthread\nmultiget 1 1 2 3 4 5\nrelease @0.0\n", []int{0, 1, 1}, repeat(0, 7, 1, 1, 1, 2)},
	} {
		s := scriptOf(t, c.text, c.picks...)
		got, errno := replay.Serial(s)
		want := c.want
		if len(c.picks) > 0 && want == nil {
			want = spokenSerial(t, s)
		}
		if errno != api.OK || textOf(t, got) != textOf(t, withPicks(s, want)) {
			t.Errorf("%q %d: %d %d", c.text, c.picks, got.Picks, errno)
		}
	}
}

// P21.3, P21.7: no two calls overlap, and they come in the order of their first steps.
func TestSerialOfAny(t *testing.T) {
	for _, s := range drawn(t, 100) {
		serial, errno := replay.Serial(s)
		if errno != api.OK || textOf(t, serial) != textOf(t, withPicks(s, spokenSerial(t, s))) {
			t.Fatalf("%s: %d %d", textOf(t, s), serial.Picks, errno)
		}
		a, b := run(t, s).Dids, run(t, serial).Dids
		if len(a) != len(b) {
			t.Fatalf("%s: %d %d", textOf(t, s), len(a), len(b))
		}
		for i := range b {
			if a[i].Span.Thread != b[i].Span.Thread || a[i].Span.Index != b[i].Span.Index || b[i].Span.To < 0 {
				t.Fatalf("%s: %+v %+v", textOf(t, s), a[i], b[i])
			}
			if i > 0 && !hist.Ahead(b[i-1].Span, b[i].Span) {
				t.Fatalf("%s: %+v %+v", textOf(t, s), b[i-1], b[i])
			}
		}
		again, errno := replay.Serial(serial)
		if errno != api.OK || textOf(t, again) != textOf(t, serial) {
			t.Fatalf("%s: %d %d", textOf(t, serial), again.Picks, errno)
		}
	}
}

// P21.3: calls that take one step each in a run may take more picks, done one behind the other, than a run may have.
func TestSerialIsLong(t *testing.T) {
	const threads = 4
	s := api.Script{Config: config(), Threads: [][]api.Op{{{Kind: api.Snapshot}}}, Picks: []int{0}}
	count := api.Op{Kind: api.Count, Ref: api.Ref{Set: true}, Hi: 9}
	for i := range threads {
		s.Threads = append(s.Threads, slices.Repeat([]api.Op{count}, api.MaxCalls))
		s.Picks = append(s.Picks, slices.Repeat([]int{1 + i}, api.MaxCalls)...)
	}
	serial, errno := replay.Serial(s)
	if errno != api.OK || len(serial.Picks) != 7+threads*api.MaxCalls*66 || len(serial.Picks) <= api.MaxPicks {
		t.Fatal(errno, len(serial.Picks))
	}
	if serial.Picks[6] != 0 || serial.Picks[7] != 1 || serial.Picks[len(serial.Picks)-1] != threads {
		t.Error(serial.Picks[6], serial.Picks[7])
	}
}

// P21.3: scripts that are not right.
func TestRunsOfWrong(t *testing.T) {
	c := config()
	get := api.Op{Kind: api.Get, Key: 7}
	for _, w := range []struct {
		s    api.Script
		want api.Errno
	}{
		{api.Script{}, api.ErrRange},
		{api.Script{Config: api.Config{Cells: 128, Slots: 63, Stamps: 1, Multi: 1}}, api.ErrMemory},
		{api.Script{Config: c, Threads: make([][]api.Op, api.MaxThreads+1)}, api.ErrLong},
		{api.Script{Config: c, Threads: [][]api.Op{make([]api.Op, api.MaxCalls+1)}}, api.ErrLong},
		{api.Script{Config: c, Picks: make([]int, api.MaxPicks+1)}, api.ErrLong},
		{api.Script{Config: c, Threads: [][]api.Op{{{Kind: api.MultiGet, Keys: make([]uint64, api.MaxMulti+1)}}}}, api.ErrLong},
		{api.Script{Config: c, Threads: [][]api.Op{{{Kind: api.Get, Lo: 1}, {}}}}, api.ErrOp},
		{api.Script{Config: c, Threads: [][]api.Op{{get}, {{Kind: api.Snapshot, Key: 1}}}}, api.ErrForm},
		{api.Script{Config: c, Threads: [][]api.Op{{{Kind: api.Release, Ref: api.Ref{Set: true, Thread: -1}}}}}, api.ErrForm},
		{api.Script{Config: c, Threads: [][]api.Op{{{Kind: api.Get, Ref: api.Ref{Set: true, Thread: -1}}}}}, api.ErrForm},
	} {
		for name, f := range map[string]func(api.Script) (api.Script, api.Errno){"Tight": replay.Tight, "Serial": replay.Serial} {
			got, errno := f(w.s)
			if errno != w.want || !reflect.DeepEqual(got, api.Script{}) {
				t.Errorf("%s(%+v): %d", name, w.s.Config, errno)
			}
		}
	}
}

// P3: what is handed in stays, and no list is in common.
func TestRunsShareNothing(t *testing.T) {
	for name, f := range map[string]func(api.Script) (api.Script, api.Errno){"Tight": replay.Tight, "Serial": replay.Serial} {
		s := scriptOf(t, "thread\nsnapshot\nmultiget @0.0 7 8\nthread\nput 7 1\n")
		s.Picks = append(make([]int, 0, 100), 0, 0, 1, 9, 0, 0, 0, 0, 0, 0)
		kept := textOf(t, s)
		got, _ := f(s)
		for _, ops := range got.Threads {
			for i := range ops {
				for j := range ops[i].Keys {
					ops[i].Keys[j] = 99
				}
				_ = append(ops[i].Keys, 98)
				ops[i].Kind = api.Collect
			}
			_ = append(ops, api.Op{Kind: api.Collect})
		}
		for i := range got.Picks {
			got.Picks[i] = 77
		}
		_ = append(got.Picks, 76)
		if textOf(t, s) != kept || s.Picks[:11][10] != 0 {
			t.Error(name, textOf(t, s))
		}
	}
}
