package tally_test

import (
	"math"
	"reflect"
	"slices"
	"testing"

	"shutter/api"
	"shutter/tally"
)

// The examples of the chapter.
func TestExamples(t *testing.T) {
	if n, errno := tally.Count([][]uint64{{1, 2}, {3}}); n != 6 || errno != api.OK {
		t.Error(n, errno)
	}
	if l, errno := tally.Tickets(2, 3); errno != api.OK || !slices.Equal(sorted(l), []uint64{0, 1, 2, 3, 4, 5}) {
		t.Error(l, errno)
	}
	most, taken, errno := tally.Most([][]uint64{{5, 3}, {4, 9}})
	if most != 9 || errno != api.OK || taken[0][1] || !taken[1][1] {
		t.Error(most, taken, errno)
	}
	if l, errno := tally.Queue([][]uint64{{1, 2}, {3, 4}}); errno != api.OK || !isMerged(l, [][]uint64{{1, 2}, {3, 4}}, false) {
		t.Error(l, errno)
	}
	if l, errno := tally.Stack([][]uint64{{1, 2, 3}}); errno != api.OK || !reflect.DeepEqual(l, [][]uint64{{3, 2, 1}}) {
		t.Error(l, errno)
	}
}

// of is one of the calls that take lists: whether beside its error all is zero, and that error.
type of struct {
	name string
	call func(lists [][]uint64) (zero bool, errno api.Errno)
}

func calls() []of {
	return []of{
		{"Count", func(l [][]uint64) (bool, api.Errno) { n, errno := tally.Count(l); return n == 0, errno }},
		{"Most", func(l [][]uint64) (bool, api.Errno) {
			n, taken, errno := tally.Most(l)
			return n == 0 && len(taken) == 0, errno
		}},
		{"Stack", func(l [][]uint64) (bool, api.Errno) { popped, errno := tally.Stack(l); return len(popped) == 0, errno }},
		{"Queue", func(l [][]uint64) (bool, api.Errno) { came, errno := tally.Queue(l); return len(came) == 0, errno }},
		{"Flags", func(l [][]uint64) (bool, api.Errno) {
			first, errno := tally.Flags(ints(l), 100)
			return len(first) == 0, errno
		}},
		{"Flags of none", func(l [][]uint64) (bool, api.Errno) {
			first, errno := tally.Flags(ints(l), 0)
			return len(first) == 0, errno
		}},
		{"Cell", func(l [][]uint64) (bool, api.Errno) {
			list, saw, errno := tally.Cell(l)
			return len(list) == 0 && len(saw) == 0, errno
		}},
		{"Ring", func(l [][]uint64) (bool, api.Errno) { came, errno := tally.Ring(l, 3); return len(came) == 0, errno }},
		{"Ring of none", func(l [][]uint64) (bool, api.Errno) { came, errno := tally.Ring(l, 0); return len(came) == 0, errno }},
		{"Barrier", func(l [][]uint64) (bool, api.Errno) { sums, errno := tally.Barrier(l); return len(sums) == 0, errno }},
	}
}

func ints(l [][]uint64) [][]int {
	sets := make([][]int, len(l))
	for i := range l {
		for _, n := range l[i] {
			sets[i] = append(sets[i], int(n))
		}
	}
	return sets
}

// P23.1 to P23.11: too many lists, or too long ones: ErrLong, ahead of ErrRange.
func TestTooLong(t *testing.T) {
	long := make([]uint64, api.MaxCalls+1)
	for _, lists := range [][][]uint64{
		make([][]uint64, api.MaxFree+1), {long}, {{1}, long, {2}}, {nil, long}, append(make([][]uint64, api.MaxFree-1), long),
	} {
		for _, c := range calls() {
			if zero, errno := c.call(lists); errno != api.ErrLong || !zero {
				t.Error(c.name, len(lists), errno, zero)
			}
		}
	}
}

// P23.1 to P23.11: as many lists as may be, and as long ones.
func TestAsLongAsMayBe(t *testing.T) {
	lists := unlike(api.MaxFree, api.MaxCalls)
	for _, c := range calls() {
		want := api.OK
		if c.name == "Flags of none" || c.name == "Ring of none" {
			want = api.ErrRange
		}
		if _, errno := c.call(lists); errno != want {
			t.Error(c.name, errno)
		}
	}
	for name, line := range lines() {
		if came, errno := line(lists); errno != api.OK || !isMerged(came, lists, false) {
			t.Error(name, errno)
		}
	}
	if n, times, errno := tally.Semaphore(api.MaxFree, api.MaxCalls, 2); n < 1 || n > 2 || times != api.MaxFree*api.MaxCalls || errno != api.OK {
		t.Error(n, times, errno)
	}
	if l, errno := tally.Tickets(api.MaxFree, api.MaxCalls); errno != api.OK || len(slices.Concat(l...)) != api.MaxFree*api.MaxCalls {
		t.Error(errno)
	}
	if l, errno := tally.Pair(make([]api.Pair, api.MaxCalls), api.MaxFree-1, api.MaxCalls); errno != api.OK || len(l) != api.MaxFree-1 {
		t.Error(errno)
	}
}

// P1, P23.1 to P23.11: no lists, and lists without anything.
func TestNothing(t *testing.T) {
	for _, lists := range [][][]uint64{nil, {}, {nil}, {{}, nil, {}}} {
		if n, errno := tally.Count(lists); n != 0 || errno != api.OK {
			t.Error(n, errno)
		}
		if n, taken, errno := tally.Most(lists); n != 0 || len(taken) != len(lists) || len(slices.Concat(taken...)) != 0 || errno != api.OK {
			t.Error(n, taken, errno)
		}
		if l, errno := tally.Stack(lists); len(l) != len(lists) || len(slices.Concat(l...)) != 0 || errno != api.OK {
			t.Error(l, errno)
		}
		for name, line := range lines() {
			if l, errno := line(lists); len(l) != 0 || errno != api.OK {
				t.Error(name, l, errno)
			}
		}
		if l, errno := tally.Flags(ints(lists), 3); !slices.Equal(l, []int{-1, -1, -1}) || errno != api.OK {
			t.Error(l, errno)
		}
		if l, saw, errno := tally.Cell(lists); len(l) != 0 || len(saw) != len(lists) || errno != api.OK {
			t.Error(l, saw, errno)
		}
		if l, errno := tally.Barrier(lists); len(l) != len(lists) || len(slices.Concat(l...)) != 0 || errno != api.OK {
			t.Error(l, errno)
		}
	}
}

// P23.2: numbers that may not be: ErrRange, ahead of ErrLong; and the least and the greatest ones that may.
func TestTicketsEdges(t *testing.T) {
	for _, x := range []struct {
		goroutines, each int
		want             api.Errno
	}{
		{-1, 3, api.ErrRange}, {3, -1, api.ErrRange}, {-1, -1, api.ErrRange},
		{-1, math.MaxInt, api.ErrRange}, {math.MaxInt, -1, api.ErrRange}, {math.MinInt, 0, api.ErrRange}, {0, math.MinInt, api.ErrRange},
		{api.MaxFree + 1, 1, api.ErrLong}, {1, api.MaxCalls + 1, api.ErrLong}, {math.MaxInt, math.MaxInt, api.ErrLong},
		{0, api.MaxCalls + 1, api.ErrLong}, {api.MaxFree + 1, 0, api.ErrLong},
		{0, 0, api.OK}, {0, 7, api.OK}, {7, 0, api.OK}, {api.MaxFree, 1, api.OK}, {1, api.MaxCalls, api.OK},
	} {
		l, errno := tally.Tickets(x.goroutines, x.each)
		if errno != x.want || errno != api.OK && len(l) != 0 {
			t.Error(x, errno, len(l))
		}
		if errno == api.OK && (len(l) != x.goroutines || len(slices.Concat(l...)) != x.goroutines*x.each) {
			t.Error(x, len(l))
		}
	}
}

// P23.6: from 1 to 4096 bits.
func TestFlagsEdges(t *testing.T) {
	for _, bits := range []int{0, -1, 4097, math.MaxInt, math.MinInt} {
		if l, errno := tally.Flags([][]int{{0}}, bits); errno != api.ErrRange || len(l) != 0 {
			t.Error(bits, len(l), errno)
		}
	}
	odd := []int{-1, math.MinInt, math.MaxInt, 4096, 1 << 32, 64 - 128}
	for _, bits := range []int{1, 64, 4096} {
		l, errno := tally.Flags([][]int{odd, append(odd, 0, bits-1, bits)}, bits)
		want := slices.Repeat([]int{-1}, bits)
		want[0], want[bits-1] = 1, 1
		if errno != api.OK || !slices.Equal(l, want) {
			t.Error(bits, l, errno)
		}
	}
}

// P23.10: from 1 to MaxRing places.
func TestRingEdges(t *testing.T) {
	for _, places := range []int{0, -1, api.MaxRing + 1, math.MaxInt, math.MinInt} {
		if l, errno := tally.Ring([][]uint64{{1, 2}}, places); errno != api.ErrRange || len(l) != 0 {
			t.Error(places, l, errno)
		}
	}
	for _, places := range []int{1, 2, 3, api.MaxRing} {
		if l, errno := tally.Ring([][]uint64{nil, {4, 4, 1, 2}, nil}, places); errno != api.OK || !slices.Equal(l, []uint64{4, 4, 1, 2}) {
			t.Error(places, l, errno)
		}
	}
}

// P23.11: as many rounds as the shortest row has numbers; what stands behind those plays no part.
func TestBarrierEdges(t *testing.T) {
	for _, x := range []struct {
		rows [][]uint64
		want []uint64
	}{
		{[][]uint64{{1, 2, 3}}, []uint64{1, 2, 3}},
		{[][]uint64{{1, 2, 3}, {10}}, []uint64{11}},
		{[][]uint64{{10}, {1, 2, 3}, {5, 5}}, []uint64{16}},
		{[][]uint64{{10}, nil, {5, 5}}, nil},
		{[][]uint64{{math.MaxUint64, 1}, {math.MaxUint64, math.MaxUint64}}, []uint64{math.MaxUint64 - 1, 0}},
	} {
		sums, errno := tally.Barrier(x.rows)
		if errno != api.OK || len(sums) != len(x.rows) {
			t.Fatal(sums, errno)
		}
		for _, l := range sums {
			if !slices.Equal(l, x.want) {
				t.Error(x.rows, sums)
			}
		}
	}
}

// P23.12: numbers that may not be: ErrRange, ahead of ErrLong; nobody is in, if nobody comes.
func TestSemaphoreEdges(t *testing.T) {
	for _, x := range []struct {
		goroutines, each, permits int
		want                      api.Errno
	}{
		{-1, 1, 1, api.ErrRange}, {1, -1, 1, api.ErrRange}, {1, 1, -1, api.ErrRange}, {1, 1, 0, api.ErrRange}, {0, 0, 0, api.ErrRange},
		{math.MinInt, 1, 1, api.ErrRange}, {1, 1, math.MinInt, api.ErrRange},
		{-1, api.MaxCalls + 1, 1, api.ErrRange}, {api.MaxFree + 1, -1, 1, api.ErrRange}, {api.MaxFree + 1, api.MaxCalls + 1, 0, api.ErrRange},
		{api.MaxFree + 1, 1, 1, api.ErrLong}, {1, api.MaxCalls + 1, 1, api.ErrLong}, {math.MaxInt, math.MaxInt, math.MaxInt, api.ErrLong},
		{api.MaxFree + 1, 0, 1, api.ErrLong}, {0, api.MaxCalls + 1, 1, api.ErrLong},
		{0, 0, 1, api.OK}, {0, 5, 1, api.OK}, {5, 0, 1, api.OK}, {1, 5, 1, api.OK}, {1, 5, math.MaxInt, api.OK}, {api.MaxFree, 5, math.MaxInt, api.OK},
	} {
		most, times, errno := tally.Semaphore(x.goroutines, x.each, x.permits)
		switch {
		case errno != x.want, errno != api.OK && (most != 0 || times != 0):
			t.Error(x, most, times, errno)
		case errno == api.OK && (times != x.goroutines*x.each || (times == 0) != (most == 0) || most > x.goroutines):
			t.Error(x, most, times)
		}
	}
}

// P23.13: numbers that may not be: ErrRange, ahead of ErrLong; readers of a cell that nobody writes.
func TestPairEdges(t *testing.T) {
	long := make([]api.Pair, api.MaxCalls+1)
	for _, x := range []struct {
		writes        []api.Pair
		readers, each int
		want          api.Errno
	}{
		{nil, -1, 1, api.ErrRange}, {nil, 1, -1, api.ErrRange}, {nil, math.MinInt, 1, api.ErrRange},
		{nil, api.MaxFree, -1, api.ErrRange}, {nil, -1, api.MaxCalls + 1, api.ErrRange}, {long, -1, 1, api.ErrRange}, {long, 1, -1, api.ErrRange},
		{long, 1, 1, api.ErrLong}, {long, 0, 0, api.ErrLong}, {nil, api.MaxFree, 1, api.ErrLong}, {nil, api.MaxFree, 0, api.ErrLong},
		{nil, 1, api.MaxCalls + 1, api.ErrLong}, {nil, 0, api.MaxCalls + 1, api.ErrLong}, {nil, math.MaxInt, math.MaxInt, api.ErrLong},
		{nil, 0, 0, api.OK}, {nil, 3, 0, api.OK}, {nil, 0, 3, api.OK}, {nil, 3, 5, api.OK},
		{long[1:], 0, 0, api.OK}, {long[1:], 1, 1, api.OK}, {nil, api.MaxFree - 1, 1, api.OK}, {nil, 1, api.MaxCalls, api.OK},
	} {
		l, errno := tally.Pair(x.writes, x.readers, x.each)
		if errno != x.want || errno != api.OK && len(l) != 0 {
			t.Error(len(x.writes), x.readers, x.each, errno, len(l))
			continue
		}
		if errno != api.OK {
			continue
		}
		if len(l) != x.readers {
			t.Error(x.readers, len(l))
		}
		for _, read := range l {
			if !slices.Equal(read, make([]api.Pair, x.each)) { // all that is written here is 0 and 0, too
				t.Error(x.readers, x.each, read)
			}
		}
	}
}

// P3: what is handed in stays as it is, spare room too; what is answered is the caller's.
func TestNothingIsShared(t *testing.T) {
	const spare = 77
	roomy := func() [][]uint64 {
		l := make([][]uint64, 3, 5)
		for i := range l {
			l[i] = append(make([]uint64, 0, 8), uint64(10*i+1), uint64(10*i+2), uint64(10*i+3))
			for k := range l[i][3:8] {
				l[i][3:8][k] = spare
			}
		}
		l[:5][3], l[:5][4] = []uint64{spare}, []uint64{spare}
		return l
	}
	whole := func(l [][]uint64) [][]uint64 {
		var all [][]uint64
		for _, row := range l[:cap(l)] {
			all = append(all, slices.Clone(row[:cap(row)]))
		}
		return all
	}
	lists := roomy()
	for _, c := range calls() {
		c.call(lists)
	}
	list, _, _ := tally.Cell(lists)
	popped, _ := tally.Stack(lists)
	came, _ := tally.Queue(lists)
	sums, _ := tally.Barrier(lists)
	taken, _ := tally.Tickets(3, 3)
	for _, row := range append(append(append([][]uint64{list, came}, popped...), sums...), taken...) {
		for k := range row[:cap(row)] {
			row[:cap(row)][k] = 99
		}
	}
	if !reflect.DeepEqual(whole(lists), whole(roomy())) {
		t.Error(whole(lists))
	}
}

// P3: no list of an answer lies in another one.
func TestRowsAreApart(t *testing.T) {
	sums, _ := tally.Barrier([][]uint64{{1, 2}, {3, 4}, {5, 6}})
	taken, _ := tally.Tickets(3, 2)
	popped, _ := tally.Stack([][]uint64{{1, 2}, {3, 4}, {5, 6}})
	for _, rows := range [][][]uint64{sums, taken, popped} {
		for i := range rows {
			var want [][]uint64
			for k, row := range rows {
				want = append(want, slices.Clone(row))
				if k == i {
					want[k] = slices.Repeat([]uint64{99}, len(row))
				}
			}
			whole := rows[i][:cap(rows[i])]
			for k := range whole {
				whole[k] = 99
			}
			for k := range rows {
				if !slices.Equal(rows[k], want[k]) {
					t.Error(i, k, rows)
				}
			}
		}
	}
	_, offers, _ := tally.Most([][]uint64{{1, 2}, {3, 4}, {5, 6}})
	for i := range offers {
		before := []bool{offers[(i+1)%3][0], offers[(i+1)%3][1]}
		for k := range offers[i][:cap(offers[i])] {
			offers[i][:cap(offers[i])][k] = !before[0]
		}
		if !slices.Equal(offers[(i+1)%3], before) {
			t.Error(offers)
		}
	}
	read, _ := tally.Pair(nil, 3, 2)
	for i := range read {
		for k := range read[i][:cap(read[i])] {
			read[i][:cap(read[i])][k] = api.Pair{Key: uint64(i + 1)}
		}
		if next := read[(i+1)%3]; next[0].Key == uint64(i+1) {
			t.Error(read)
		}
	}
}
