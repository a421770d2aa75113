package replay_test

import (
	"math"
	"math/rand"
	"reflect"
	"slices"
	"strings"
	"testing"

	"shutter/api"
	"shutter/replay"
)

func load(thread int, addr, got uint64) api.Access {
	return api.Access{Thread: thread, Kind: api.Load, Addr: addr, Got: got}
}

func put(thread int, addr, value uint64) api.Access {
	return api.Access{Thread: thread, Kind: api.Store, Addr: addr, A: value}
}

func cas(thread int, addr, old, now uint64, ok bool) api.Access {
	return api.Access{Thread: thread, Kind: api.Cas, Addr: addr, A: old, B: now, Ok: ok}
}

func add(thread int, addr, n, got uint64) api.Access {
	return api.Access{Thread: thread, Kind: api.Add, Addr: addr, A: n, Got: got}
}

func alloc(thread int, addr uint64, values ...uint64) api.Access {
	return api.Access{Thread: thread, Kind: api.Alloc, Addr: addr, Values: values}
}

// lines are accesses with their texts.
func lines() []struct {
	access api.Access
	text   string
} {
	return []struct {
		access api.Access
		text   string
	}{
		{load(0, 5, 7), "0 load 5 7"},
		{load(0, 0, 0), "0 load 0 0"},
		{cas(1, 5, 7, 8, true), "1 cas 5 7 8 yes"},
		{cas(1, 5, 7, 8, false), "1 cas 5 7 8 no"},
		{cas(63, 0, 0, 0, false), "63 cas 0 0 0 no"},
		{alloc(0, 66, 5, 0, 0), "0 alloc 66 5 0 0"},
		{alloc(0, 0, 5), "0 alloc 0 5"},
		{alloc(2, 0), "2 alloc 0"},
		{alloc(2, 7), "2 alloc 7"},
		{put(3, 9, 10), "3 store 9 10"},
		{add(-1, 4, math.MaxUint64, 6), "-1 add 4 18446744073709551615 6"},
		{load(math.MinInt, math.MaxUint64, math.MaxUint64), "-9223372036854775808 load 18446744073709551615 18446744073709551615"},
		{put(math.MaxInt, 1, 2), "9223372036854775807 store 1 2"},
	}
}

func same(a, b []api.Access) bool {
	return slices.EqualFunc(a, b, func(a, b api.Access) bool {
		if !slices.Equal(a.Values, b.Values) {
			return false
		}
		a.Values, b.Values = nil, nil
		return reflect.DeepEqual(a, b)
	})
}

// P21.1, with example 1: each kind there and back, alone and all in one trace.
func TestTexts(t *testing.T) {
	var all []api.Access
	text := ""
	for _, c := range lines() {
		if got, errno := replay.Print([]api.Access{c.access}); errno != api.OK || got != c.text+"\n" {
			t.Errorf("Print(%+v): %q %d", c.access, got, errno)
		}
		l, errno, line := replay.Parse(c.text + "\n")
		if errno != api.OK || line != 0 || !same(l, []api.Access{c.access}) {
			t.Errorf("Parse(%q): %+v %d %d", c.text, l, errno, line)
		}
		all = append(all, c.access)
		text += c.text + "\n"
	}
	if got, errno := replay.Print(all); errno != api.OK || got != text {
		t.Errorf("%q %d", got, errno)
	}
	if l, errno, line := replay.Parse(text); errno != api.OK || line != 0 || !same(l, all) {
		t.Errorf("%+v %d %d", l, errno, line)
	}
}

// P21.1: no accesses have the empty text.
func TestTextOfNothing(t *testing.T) {
	for _, l := range [][]api.Access{nil, {}} {
		if got, errno := replay.Print(l); errno != api.OK || got != "" {
			t.Errorf("%q %d", got, errno)
		}
	}
	if l, errno, line := replay.Parse(""); errno != api.OK || line != 0 || len(l) != 0 {
		t.Errorf("%+v %d %d", l, errno, line)
	}
}

// wrongAccesses are such that are not right: no kind, or a field that the text does not name.
func wrongAccesses() []api.Access {
	l := []api.Access{{}, {Kind: api.Alloc + 1}, {Kind: math.MaxUint8}}
	values := []uint64{0}
	for kind, fields := range map[api.AccessKind][]api.Access{
		api.Load:  {{A: 1}, {B: 1}, {Values: values}, {Ok: true}},
		api.Store: {{B: 1}, {Values: values}, {Got: 1}, {Ok: true}},
		api.Cas:   {{Values: values}, {Got: 1}},
		api.Add:   {{B: 1}, {Values: values}, {Ok: true}},
		api.Alloc: {{A: 1}, {B: 1}, {Got: 1}, {Ok: true}},
	} {
		for _, a := range fields {
			a.Kind = kind
			l = append(l, a)
		}
	}
	return l
}

// P21.1: an access that is not right, alone and among others.
func TestPrintOfWrong(t *testing.T) {
	for _, a := range wrongAccesses() {
		for _, l := range [][]api.Access{{a}, {load(0, 1, 2), a}, {a, load(0, 1, 2)}} {
			if got, errno := replay.Print(l); errno != api.ErrForm || got != "" {
				t.Errorf("Print(%+v): %q %d", l, got, errno)
			}
		}
	}
}

// P21.1: a list that is not nil but empty is none.
func TestPrintOfEmptyValues(t *testing.T) {
	a := load(0, 1, 2)
	a.Values = []uint64{}
	if got, errno := replay.Print([]api.Access{a}); errno != api.OK || got != "0 load 1 2\n" {
		t.Errorf("%q %d", got, errno)
	}
}

// wrongLines are lines that are no access's text.
func wrongLines() []string {
	return []string{
		"", " ", "0", "0 ", "load 5 7", "0 load", "0 load 5", "0 load 5 7 8", "0 load 5 7 ", " 0 load 5 7", "0  load 5 7", "0 load  5 7",
		"0\tload 5 7", "0 load 5 7\r", "0 Load 5 7", "0 lod 5 7", "0 loads 5 7", "0  5 7", "00 load 5 7", "+0 load 5 7", "-0 load 5 7", "-01 load 5 7",
		"0 load 05 7", "0 load 5 07", "0 load +5 7", "0 load -5 7", "0 load -0 7", "0 load 5 18446744073709551616", "9223372036854775808 load 5 7",
		"0 load 0x5 7", "0 load 5_0 7", "0 load five 7", "a load 5 7",
		"0 store 5", "0 store 5 7 8", "0 store 5 yes", "0 add 5 7", "0 add 5 7 8 9", "0 add 5 7 8 yes",
		"0 cas 5 7 8", "0 cas 5 7 yes", "0 cas 5 7 8 9 yes", "0 cas 5 7 8 true", "0 cas 5 7 8 Yes", "0 cas 5 7 8 yes no", "0 cas 5 7 8 1", "0 cas 5 7 8 ", "0 cas yes 5 7 8",
		"0 alloc", "0 alloc ", "0 alloc 66 5 ", "0 alloc 66  5", "0 alloc 66 5 x", "0 alloc -1", "0 alloc 66 05", "0 alloc 66 5 18446744073709551616",
	}
}

// P21.1: the first line that is none, wherever it stands; a line that is not ended.
func TestParseOfWrong(t *testing.T) {
	good := "0 load 5 7\n"
	for _, line := range wrongLines() {
		for text, want := range map[string]int{
			line + "\n":                        1,
			line + "\n" + good:                 1,
			good + good + line + "\n":          3,
			good + line + "\n" + line + "\n":   2,
			good + line + "\n" + good + good:   2,
			good + good + line + "\n" + "0 lo": 3,
		} {
			if l, errno, got := replay.Parse(text); errno != api.ErrForm || got != want || len(l) != 0 {
				t.Errorf("Parse(%q): %+v %d %d", text, l, errno, got)
			}
		}
	}
	for _, c := range lines() {
		for text, want := range map[string]int{c.text: 1, good + c.text: 2, good + good + c.text: 3} {
			if l, errno, got := replay.Parse(text); errno != api.ErrForm || got != want || len(l) != 0 {
				t.Errorf("Parse(%q): %+v %d %d", text, l, errno, got)
			}
		}
	}
}

// someAccess is a right one.
func someAccess(r *rand.Rand) api.Access {
	number := func() uint64 { return r.Uint64() >> r.Intn(64) }
	thread := r.Intn(5) - 1
	switch r.Intn(5) {
	case 0:
		return load(thread, number(), number())
	case 1:
		return put(thread, number(), number())
	case 2:
		return cas(thread, number(), number(), number(), r.Intn(2) == 0)
	case 3:
		return add(thread, number(), number(), number())
	}
	values := make([]uint64, r.Intn(4))
	for i := range values {
		values[i] = number()
	}
	return alloc(thread, number(), values...)
}

// P21.4 (E10): there and back.
func TestThereAndBack(t *testing.T) {
	r := rand.New(rand.NewSource(1))
	for range 2000 {
		var l []api.Access
		for range r.Intn(6) {
			l = append(l, someAccess(r))
		}
		text, errno := replay.Print(l)
		if errno != api.OK {
			t.Fatal(errno, l)
		}
		back, errno, line := replay.Parse(text)
		if errno != api.OK || line != 0 || !same(back, l) {
			t.Fatalf("%q: %+v %d %d", text, back, errno, line)
		}
		checkSpoilt(t, r, text)
	}
}

// checkSpoilt checks that a text with a byte changed, left out or put in is what is printed of it, or none.
func checkSpoilt(t *testing.T, r *rand.Rand, text string) {
	t.Helper()
	const bytes = "0127 -+\nloadcsyen"
	at := r.Intn(len(text) + 1)
	more := string(bytes[r.Intn(len(bytes))])
	for _, spoilt := range []string{text[:at] + more + text[at:], text[:at] + more + text[min(at+1, len(text)):], text[:at] + text[min(at+1, len(text)):]} {
		l, errno, line := replay.Parse(spoilt)
		if errno != api.OK {
			if first := firstWrongLine(spoilt); errno != api.ErrForm || line != first || len(l) != 0 {
				t.Fatalf("%q: %+v %d %d, but %d", spoilt, l, errno, line, first)
			}
			continue
		}
		if again, errno := replay.Print(l); errno != api.OK || again != spoilt || line != 0 {
			t.Fatalf("%q: %q %d %d", spoilt, again, errno, line)
		}
	}
}

// firstWrongLine is the first line that is none if it is read alone; 0, if all are.
func firstWrongLine(text string) int {
	for i, line := range strings.SplitAfter(text, "\n") {
		if _, errno, _ := replay.Parse(line); errno != api.OK {
			return i + 1
		}
	}
	return 0
}

// P3: what is handed in stays, and lists that are answered lie by themselves.
func TestTextsShareNothing(t *testing.T) {
	values := []uint64{5, 6, 9}
	l := []api.Access{alloc(0, 1, values[:2]...), load(0, 1, 5)}
	l[0].Values = values[:2]
	replay.Print(l[:1])
	if values[2] != 9 || !same(l, []api.Access{alloc(0, 1, 5, 6), load(0, 1, 5)}) {
		t.Error(l, values)
	}
	a, _, _ := replay.Parse("0 alloc 1 5 6\n0 alloc 3 7\n")
	b, _, _ := replay.Parse("0 alloc 1 5 6\n0 alloc 3 7\n")
	a[0].Values[0] = 99
	_ = append(a[0].Values, 98)
	if a[1].Values[0] != 7 || !same(b, []api.Access{alloc(0, 1, 5, 6), alloc(0, 3, 7)}) {
		t.Error(a, b)
	}
}
