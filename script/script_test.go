package script_test

import (
	"math"
	"math/rand"
	"reflect"
	"slices"
	"strings"
	"testing"

	"shutter/api"
	"shutter/script"
	"shutter/store"
)

var config = api.Config{Cells: 2000, Slots: 2, Stamps: 100, Multi: 4}

func lines(l ...string) string { return strings.Join(l, "\n") + "\n" }

func manyOps(n int) []api.Op { return slices.Repeat([]api.Op{{Kind: api.Collect}}, n) }

// sameScript tells whether two scripts are the same; an empty list is as nil.
func sameScript(a, b api.Script) bool {
	return a.Config == b.Config && slices.Equal(a.Picks, b.Picks) &&
		slices.EqualFunc(a.Threads, b.Threads, func(a, b []api.Op) bool { return slices.EqualFunc(a, b, sameOp) })
}

// P17.1: what is wrong with a script: the first that applies.
func TestRight(t *testing.T) {
	keys := func(n int) api.Op { return api.Op{Kind: api.MultiGet, Keys: make([]uint64, n)} }
	noKind, noForm := api.Op{Kind: 11}, api.Op{Kind: api.Snapshot, Key: 1}
	no := func(change func(c *api.Config)) api.Config {
		c := config
		change(&c)
		return c
	}
	for i, c := range []struct {
		script api.Script
		errno  api.Errno
	}{
		{api.Script{Config: config}, api.OK},
		{api.Script{}, api.ErrRange},
		{api.Script{Config: no(func(c *api.Config) { c.Cells = api.MinCells - 1 })}, api.ErrRange},
		{api.Script{Config: no(func(c *api.Config) { c.Cells = api.MaxCells + 1 })}, api.ErrRange},
		{api.Script{Config: no(func(c *api.Config) { c.Slots = 0 })}, api.ErrRange},
		{api.Script{Config: no(func(c *api.Config) { c.Stamps = 0 })}, api.ErrRange},
		{api.Script{Config: no(func(c *api.Config) { c.Multi = api.MaxMulti + 1 })}, api.ErrRange},
		{api.Script{Config: api.Config{Cells: 128, Slots: 63, Stamps: 1, Multi: 1}}, api.ErrMemory},
		{api.Script{Config: api.Config{Cells: 128, Slots: 62, Stamps: 1, Multi: 1}}, api.OK},
		{api.Script{Config: api.Config{Cells: 128, Slots: 63, Stamps: 1, Multi: 1}, Threads: make([][]api.Op, 65)}, api.ErrMemory},
		{api.Script{Config: config, Threads: make([][]api.Op, api.MaxThreads)}, api.OK},
		{api.Script{Config: config, Threads: make([][]api.Op, api.MaxThreads+1)}, api.ErrLong},
		{api.Script{Config: config, Threads: [][]api.Op{nil, manyOps(api.MaxCalls)}}, api.OK},
		{api.Script{Config: config, Threads: [][]api.Op{nil, manyOps(api.MaxCalls + 1)}}, api.ErrLong},
		{api.Script{Config: config, Picks: make([]int, api.MaxPicks)}, api.OK},
		{api.Script{Config: config, Picks: make([]int, api.MaxPicks+1)}, api.ErrLong},
		{api.Script{Config: config, Threads: [][]api.Op{{keys(5)}, {keys(api.MaxMulti)}}}, api.OK},
		{api.Script{Config: config, Threads: [][]api.Op{{noKind, noForm}, {keys(api.MaxMulti + 1)}}}, api.ErrLong},
		{api.Script{Config: config, Threads: [][]api.Op{{noForm}, {noKind}}}, api.ErrOp},
		{api.Script{Config: config, Threads: [][]api.Op{{noKind}, {noForm}}}, api.ErrOp},
		{api.Script{Config: config, Threads: [][]api.Op{{noForm}, {{Kind: api.Get}}}}, api.ErrForm},
		{api.Script{Config: config, Threads: [][]api.Op{{}, {{Kind: api.Get}, noForm}}}, api.ErrForm},
		{api.Script{Config: config, Picks: []int{-1, math.MinInt, math.MaxInt, 64}}, api.OK},
		{api.Script{Config: config, Threads: [][]api.Op{{{Kind: api.Release, Ref: refTo(99, 9999)}}}}, api.OK},
	} {
		if errno := script.Right(c.script); errno != c.errno {
			t.Errorf("%d: %d, not %d", i, errno, c.errno)
		}
		if text, errno := script.Print(c.script); errno != c.errno || (text == "") != (errno != api.OK) {
			t.Errorf("%d is printed as %d bytes: %d, not %d", i, len(text), errno, c.errno)
		}
		if less, errno := script.Without(c.script); errno != c.errno || errno != api.OK && !reflect.DeepEqual(less, api.Script{}) {
			t.Errorf("%d without its Collects: %d, not %d", i, errno, c.errno)
		}
		want := c.errno
		if want == api.OK {
			want = api.ErrNone
		}
		if less, errno := script.Least(c.script, 0, -1); errno != want || !reflect.DeepEqual(less, api.Script{}) {
			t.Errorf("%d, the least of it: %d, not %d", i, errno, want)
		}
	}
}

func picksFrom(from, n int) []int {
	var l []int
	for i := range n {
		l = append(l, from+i)
	}
	return l
}

// P17.2, P17.4: scripts with their texts.
func TestTexts(t *testing.T) {
	first := "config 2000 2 100 4"
	for _, c := range []struct {
		script api.Script
		text   string
	}{
		{
			api.Script{Config: config, Threads: [][]api.Op{{{Kind: api.Put, Key: 7, Value: 1}}, {{Kind: api.Get, Key: 7}}}, Picks: []int{0, 1, 0, 0}},
			lines(first, "thread", "put 7 1", "thread", "get 7", "picks 0 1 0 0"),
		},
		{api.Script{Config: config}, lines(first)},
		{api.Script{Config: config, Threads: [][]api.Op{nil, {}}}, lines(first, "thread", "thread")},
		{api.Script{Config: config, Picks: []int{5}}, lines(first, "picks 5")},
		{api.Script{Config: config, Picks: []int{-1, math.MinInt, math.MaxInt}}, lines(first, "picks -1 -9223372036854775808 9223372036854775807")},
		{api.Script{Config: config, Picks: picksFrom(1, 20)}, lines(first, "picks 1 2 3 4 5 6 7 8 9 10 11 12 13 14 15 16 17 18 19 20")},
		{
			api.Script{Config: config, Threads: [][]api.Op{nil}, Picks: picksFrom(-1, 41)},
			lines(first, "thread", "picks -1 0 1 2 3 4 5 6 7 8 9 10 11 12 13 14 15 16 17 18", "picks 19 20 21 22 23 24 25 26 27 28 29 30 31 32 33 34 35 36 37 38", "picks 39"),
		},
		{
			api.Script{Config: api.Config{Cells: api.MaxCells, Slots: api.MaxSlots, Stamps: api.MaxStamp, Multi: api.MaxMulti}, Threads: [][]api.Op{{{Kind: api.Collect}}}},
			lines("config 4194304 256 1099511627776 1024", "thread", "collect"),
		},
	} {
		if text, errno := script.Print(c.script); text != c.text || errno != api.OK {
			t.Errorf("%+v is %q (%d), not %q", c.script, text, errno, c.text)
		}
		if s, errno, line := script.Parse(c.text); !sameScript(s, c.script) || errno != api.OK || line != 0 {
			t.Errorf("%q is %+v, %d, at %d", c.text, s, errno, line)
		}
	}
}

// P17.2: the line at which a text is none.
func TestNoTexts(t *testing.T) {
	first := "config 2000 2 100 4\n"
	twenty := "picks" + strings.Repeat(" 3", 20) + "\n"
	for _, c := range []struct {
		text string
		line int
	}{
		{"", 1},
		{"\n", 1},
		{"config 2000 2 100 4", 1},
		{"conf", 1},
		{"thread\n", 1},
		{"picks 1\n", 1},
		{"get 7\n", 1},
		{" " + first, 1},
		{"config 2000 2 100 4 \n", 1},
		{"config 2000 2 100\n", 1},
		{"config 2000 2 100 4 5\n", 1},
		{"config  2000 2 100 4\n", 1},
		{"config 02000 2 100 4\n", 1},
		{"config +2000 2 100 4\n", 1},
		{"config 2000 2 0100 4\n", 1},
		{"config 2000 2 100 4\r\n", 1},
		{"config 127 2 100 4\n", 1},
		{"config 2000 0 100 4\n", 1},
		{"config 2000 -2 100 4\n", 1},
		{"config 2000 2 0 4\n", 1},
		{"config 2000 2 -1 4\n", 1},
		{"config 2000 2 1099511627777 4\n", 1},
		{"config 2000 2 100 1025\n", 1},
		{"config 18446744073709553616 2 100 4\n", 1},
		{"config 128 63 100 4\n", 1},
		{"config 127 2 100 4\nnothing\n", 1},
		{first + "\n", 2},
		{first + first, 2},
		{first + "get 7\n", 2},
		{first + "thread 1\n", 2},
		{first + "thread \n", 2},
		{first + "thread", 2},
		{first + "picks\n", 2},
		{first + "picks \n", 2},
		{first + "picks 1 \n", 2},
		{first + "picks  1\n", 2},
		{first + "picks 01\n", 2},
		{first + "picks +1\n", 2},
		{first + "picks -0\n", 2},
		{first + "picks 9223372036854775808\n", 2},
		{first + "picks 1", 2},
		{first + "picks" + strings.Repeat(" 3", 21) + "\n", 2},
		{first + "thread\nput 7\n", 3},
		{first + "thread\nput 7 1", 3},
		{first + "thread\nput 7 1\n\n", 4},
		{first + "thread\nput 7 1\nconfig 2000 2 100 4\n", 4},
		{first + "thread\nmultiget 1" + strings.Repeat(" 7", 1025) + "\n", 3},
		{first + "thread\nrelease @0.-1\n", 3},
		{first + "picks 1\npicks 1\n", 3},
		{first + "picks 1\nthread\n", 3},
		{first + "picks 1\nget 7\n", 3},
		{first + "thread\npicks 1\n\n", 4},
		{first + twenty + "thread\n", 3},
		{first + "thread\n" + twenty + "get 7\n", 4},
		{first + twenty + "picks\n", 3},
		{first + twenty + "picks 1\n" + twenty, 4},
		{first + twenty + twenty + "picks 1", 4},
	} {
		if s, errno, line := script.Parse(c.text); errno != api.ErrForm || line != c.line || !reflect.DeepEqual(s, api.Script{}) {
			t.Errorf("%q: %+v, %d at %d, not %d", c.text, s, errno, line, c.line)
		}
	}
}

// P17.2: a limit that is passed is told behind the last line; but a line that may not be comes first.
func TestTextsThatAreTooLong(t *testing.T) {
	first := "config 2000 2 100 4\n"
	twenty := "picks" + strings.Repeat(" 3", 20) + "\n"
	full := api.MaxPicks / 20 // lines, and 16 picks
	for i, c := range []struct {
		text string
		line int
	}{
		{first + strings.Repeat("thread\n", api.MaxThreads), 0},
		{first + strings.Repeat("thread\n", api.MaxThreads+1), api.MaxThreads + 3},
		{first + strings.Repeat("thread\n", api.MaxThreads+1) + "picks 1\n", api.MaxThreads + 4},
		{first + strings.Repeat("thread\n", api.MaxThreads+1) + "picks\n", api.MaxThreads + 3},
		{first + "thread\n" + strings.Repeat("collect\n", api.MaxCalls), 0},
		{first + "thread\n" + strings.Repeat("collect\n", api.MaxCalls+1), api.MaxCalls + 4},
		{first + "thread\n" + strings.Repeat("collect\n", api.MaxCalls+1) + "thread\nget", api.MaxCalls + 5},
		{first + strings.Repeat(twenty, full) + "picks" + strings.Repeat(" 0", 16) + "\n", 0},
		{first + strings.Repeat(twenty, full) + "picks" + strings.Repeat(" 0", 17) + "\n", full + 3},
		{first + strings.Repeat(twenty, full+1), full + 3},
		{first + strings.Repeat(twenty, full+1) + "\n", full + 3},
	} {
		want := api.ErrForm
		if c.line == 0 {
			want = api.OK
		}
		s, errno, line := script.Parse(c.text)
		if errno != want || line != c.line || want != api.OK && !reflect.DeepEqual(s, api.Script{}) {
			t.Errorf("%d: %d at %d, not %d", i, errno, line, c.line)
		}
		if want != api.OK {
			continue
		}
		if text, errno := script.Print(s); errno != api.OK || text != c.text {
			t.Errorf("%d is not printed as it was read", i)
		}
	}
}

// badLine is the first line with which no right script's text goes on, 0 if there is none, by the form of each line.
func badLine(text string) int {
	l := strings.SplitAfter(text, "\n")
	at := "config"
	threads := 0
	for i, line := range l {
		if line == "" {
			break // behind the last line
		}
		line, ended := strings.CutSuffix(line, "\n")
		parts := strings.Split(line, " ")
		ok := false
		switch {
		case !ended:
		case at == "config":
			ok, at = isConfig(parts), "threads"
		case at == "end":
		case parts[0] == "picks":
			ok = len(parts) > 1 && len(parts) <= 21 && !slices.ContainsFunc(parts[1:], isNoPick)
			if at = "picks"; len(parts) < 21 {
				at = "end"
			}
		case at == "picks":
		case line == "thread":
			ok = true
			threads++
		default:
			ok = threads > 0 && isOpText(line)
		}
		if !ok {
			return i + 1
		}
	}
	return 0
}

func isNoPick(part string) bool {
	positive, negative := strings.CutPrefix(part, "-")
	return !isNumber(positive, 63) || negative && positive == "0"
}

func isConfig(parts []string) bool {
	if len(parts) != 5 || parts[0] != "config" || slices.ContainsFunc(parts[1:], isNoPick) {
		return false
	}
	var n [4]int
	for i := range n {
		for _, digit := range parts[i+1] {
			n[i] = 10*n[i] + int(digit) - '0'
		}
	}
	_, errno := store.New(api.Config{Cells: n[0], Slots: n[1], Stamps: uint64(n[2]), Multi: n[3]})
	return errno == api.OK && !strings.Contains(strings.Join(parts, ""), "-")
}

// drawScript is a right script.
func drawScript(r *rand.Rand) api.Script {
	s := api.Script{Config: api.Config{Cells: 128 + r.Intn(400), Slots: 1 + r.Intn(9), Stamps: 1 + uint64(r.Intn(1000)), Multi: 1 + r.Intn(9)}}
	for range r.Intn(4) {
		var ops []api.Op
		for range r.Intn(4) {
			ops = append(ops, drawOp(r))
		}
		s.Threads = append(s.Threads, ops)
	}
	for range r.Intn(3) * r.Intn(30) {
		s.Picks = append(s.Picks, r.Intn(2000)>>r.Intn(12)-3)
	}
	return s
}

// spoilLines changes a text, a place or two of it or a line or two.
func spoilLines(r *rand.Rand, text string) string {
	if r.Intn(2) == 0 {
		return spoil(r, text)
	}
	l := strings.SplitAfter(text, "\n")
	for range 1 + r.Intn(2) {
		from, to := r.Intn(len(l)), r.Intn(len(l))
		switch r.Intn(3) {
		case 0:
			l[from], l[to] = l[to], l[from]
		case 1:
			l = slices.Insert(l, to, l[from])
		case 2:
			l = slices.Delete(l, from, from+1)
		}
		if len(l) == 0 {
			break
		}
	}
	return strings.Join(l, "")
}

// P17.2, P17.4 (E10): there and back, of drawn scripts; of a text that was spoilt, the line at which it is none.
func TestThereAndBack(t *testing.T) {
	taken := 0
	bad := map[int]int{}
	r := rand.New(rand.NewSource(1))
	for range 10000 {
		s := drawScript(r)
		text, errno := script.Print(s)
		if errno != api.OK {
			t.Fatalf("%+v: %d", s, errno)
		}
		if back, errno, line := script.Parse(text); errno != api.OK || line != 0 || !sameScript(back, s) {
			t.Fatalf("%q is %+v, %d at %d, not %+v", text, back, errno, line, s)
		}
		text = spoilLines(r, text)
		back, errno, line := script.Parse(text)
		want := badLine(text)
		if text == "" {
			want = 1
		}
		if line != want || (errno == api.OK) != (want == 0) {
			t.Fatalf("%q: %d at %d, not %d", text, errno, line, want)
		}
		if bad[want]++; want != 0 {
			continue
		}
		taken++
		if again, errno := script.Print(back); errno != api.OK || again != text {
			t.Fatalf("%q is %+v, which is %q", text, back, again)
		}
	}
	if taken < 1000 || bad[1] < 500 || bad[2] < 500 || bad[5] < 100 {
		t.Error("too few:", taken, bad)
	}
}

// P3: what is handed in stays, and what is answered is the caller's.
func TestListsStay(t *testing.T) {
	sample := func() api.Script {
		keys := append(make([]uint64, 0, 9), 7, 8)
		ops := append(make([]api.Op, 0, 9), api.Op{Kind: api.Collect}, api.Op{Kind: api.Snapshot}, api.Op{Kind: api.MultiGet, Ref: refTo(0, 1), Keys: keys})
		return api.Script{Config: config, Threads: append(make([][]api.Op, 0, 9), ops, nil), Picks: append(make([]int, 0, 999), slices.Repeat([]int{0, 1}, 200)...)}
	}
	// whole is all that a script has, the spare room too.
	whole := func(s api.Script) api.Script {
		s.Threads = slices.Clone(s.Threads[:cap(s.Threads)])
		for i, ops := range s.Threads {
			s.Threads[i] = slices.Clone(ops[:cap(ops)])
			for j, o := range s.Threads[i] {
				s.Threads[i][j].Keys = slices.Clone(o.Keys[:cap(o.Keys)])
			}
		}
		s.Picks = slices.Clone(s.Picks[:cap(s.Picks)])
		return s
	}
	spoilt := func(s api.Script) {
		for _, ops := range s.Threads {
			for _, o := range ops[:cap(ops)] {
				for i := range o.Keys[:cap(o.Keys)] {
					o.Keys[:cap(o.Keys)][i] = 99
				}
			}
			clear(ops[:cap(ops)])
		}
		for i := range s.Picks[:cap(s.Picks)] {
			s.Picks[:cap(s.Picks)][i] = 99
		}
		clear(s.Threads[:cap(s.Threads)])
	}
	s := sample()
	want := whole(s)
	script.Right(s)
	script.Print(s)
	script.PrintOp(s.Threads[0][2])
	less, errno := script.Without(s)
	if errno != api.OK {
		t.Fatal(errno)
	}
	spoilt(less)
	least, errno := script.Least(s, 0, 2)
	if errno != api.OK {
		t.Fatal(errno)
	}
	spoilt(least)
	if !reflect.DeepEqual(whole(s), want) {
		t.Errorf("%+v has become %+v", want, s)
	}
	a := []api.Pair{{Key: 1, Value: 2}}
	if script.PrintAnswer(api.Range, api.Answer{Pairs: a}); a[0] != (api.Pair{Key: 1, Value: 2}) {
		t.Error("pairs have changed:", a)
	}
}
