package tally_test

import (
	"math/rand"
	"runtime"
	"slices"
	"testing"

	"shutter/api"
	"shutter/tally"
)

// draw are lists of any numbers: like ones too, and lists without any.
func draw(r *rand.Rand, lists, each int, below int64) [][]uint64 {
	l := make([][]uint64, lists)
	for i := range l {
		for range r.Intn(each + 1) {
			l[i] = append(l[i], uint64(r.Int63n(below)))
		}
	}
	return l
}

// unlike are lists of numbers of which each stands once, rising from 1 on.
func unlike(lists, each int) [][]uint64 {
	l := make([][]uint64, lists)
	for i := range l {
		for k := range each {
			l[i] = append(l[i], uint64(1+i*each+k))
		}
	}
	return l
}

// shapes are how many lists there are, and how long they are, at most.
func shapes() [][2]int {
	return [][2]int{{1, 20}, {2, 1}, {2, 300}, {3, 100}, {8, 50}, {16, 200}, {64, 9}}
}

// sorted is all that stands in lists.
func sorted(lists [][]uint64) []uint64 {
	all := slices.Concat(lists...)
	slices.Sort(all)
	return all
}

func ok(t *testing.T, errno api.Errno) {
	t.Helper()
	if errno != api.OK {
		t.Fatal("the error", errno)
	}
}

// manyCores tells whether goroutines can be under way at one time: on one core they get between one another too seldom to be waited for.
func manyCores() bool {
	return runtime.GOMAXPROCS(0) > 1 && runtime.NumCPU() > 1
}

// isMerged tells whether a list has just what stands in lists, each of them in its own order (in the opposite one, if it is backward), where no number stands twice.
func isMerged(came []uint64, lists [][]uint64, backward bool) bool {
	if !slices.Equal(sorted([][]uint64{came}), sorted(lists)) {
		return false
	}
	for _, l := range lists {
		if !isInOrder(came, l, backward) {
			return false
		}
	}
	return true
}

// isInOrder tells whether what came of a list came in its order.
func isInOrder(came, list []uint64, backward bool) bool {
	at := map[uint64]int{}
	for k, n := range list {
		at[n] = k
	}
	last := -1
	if backward {
		last = len(list)
	}
	for _, n := range came {
		k, mine := at[n]
		if !mine {
			continue
		}
		if backward && k >= last || !backward && k <= last {
			return false
		}
		last = k
	}
	return true
}

// P23.1: no number that was added is lost; the sum goes round.
func TestCountOfSome(t *testing.T) {
	r := rand.New(rand.NewSource(1))
	for _, shape := range shapes() {
		for range 20 {
			adds := draw(r, shape[0], shape[1], 1<<62)
			for i := range adds {
				for k := range adds[i] {
					adds[i][k] *= 7 // goes round
				}
			}
			var want uint64
			for _, n := range slices.Concat(adds...) {
				want += n
			}
			if n, errno := tally.Count(adds); n != want || errno != api.OK {
				t.Fatal(n, want, errno)
			}
		}
	}
}

// P23.2: all tickets, each once, and those of each goroutine rise.
func TestTicketsOfSome(t *testing.T) {
	for _, shape := range shapes() {
		for range 20 {
			taken, errno := tally.Tickets(shape[0], shape[1])
			ok(t, errno)
			if len(taken) != shape[0] {
				t.Fatal(len(taken))
			}
			for _, l := range taken {
				if len(l) != shape[1] || !slices.IsSorted(l) {
					t.Fatal(l)
				}
			}
			for i, n := range sorted(taken) {
				if n != uint64(i) {
					t.Fatal(i, n)
				}
			}
		}
	}
}

// P23.3, P23.8: the greatest one is told, and which offers were taken can have been.
func TestMostOfSome(t *testing.T) {
	r := rand.New(rand.NewSource(3))
	for _, shape := range shapes() {
		for range 100 {
			offers := draw(r, shape[0], shape[1], 1+int64(r.Intn(50)))
			most, taken, errno := tally.Most(offers)
			ok(t, errno)
			if all := sorted(offers); len(all) == 0 && most != 0 || len(all) > 0 && most != all[len(all)-1] {
				t.Fatal(most, all)
			}
			checkTaken(t, offers, most, taken)
		}
	}
}

func checkTaken(t *testing.T, offers [][]uint64, most uint64, taken [][]bool) {
	t.Helper()
	if len(taken) != len(offers) {
		t.Fatal(len(taken), len(offers))
	}
	times := map[uint64]int{} // how often a number was taken
	for i, l := range offers {
		if len(taken[i]) != len(l) {
			t.Fatal(taken[i], l)
		}
		for k, n := range l {
			if !taken[i][k] {
				continue
			}
			times[n]++
			if n == 0 || times[n] > 1 || k > 0 && slices.Max(l[:k]) >= n {
				t.Fatal(n, "was taken:", l, taken[i])
			}
		}
	}
	if most > 0 && times[most] != 1 {
		t.Fatal("the greatest one was not taken:", most)
	}
}

// P23.4: together just what was pushed, and what one popped of one list in the opposite order.
func TestStackOfSome(t *testing.T) {
	for _, shape := range shapes() {
		for range 20 {
			pushes := unlike(shape[0], shape[1])
			popped, errno := tally.Stack(pushes)
			ok(t, errno)
			if len(popped) != len(pushes) || !slices.Equal(sorted(popped), sorted(pushes)) {
				t.Fatal(popped)
			}
			for _, came := range popped {
				for _, l := range pushes {
					if !isInOrder(came, l, true) {
						t.Fatal(came, l)
					}
				}
			}
		}
	}
}

// P23.4, P23.5, P23.10: like numbers come out as often as they were put in.
func TestLikeNumbers(t *testing.T) {
	r := rand.New(rand.NewSource(5))
	for _, shape := range shapes() {
		for range 20 {
			lists := draw(r, shape[0], shape[1], 5)
			popped, errno := tally.Stack(lists)
			if errno != api.OK || !slices.Equal(sorted(popped), sorted(lists)) {
				t.Fatal(popped, errno)
			}
			for name, line := range lines() {
				came, errno := line(lists)
				if errno != api.OK || !slices.Equal(sorted([][]uint64{came}), sorted(lists)) {
					t.Fatal(name, came, errno)
				}
			}
		}
	}
}

// lines are a Queue, and Rings of all kinds.
func lines() map[string]func(puts [][]uint64) ([]uint64, api.Errno) {
	ring := func(places int) func(puts [][]uint64) ([]uint64, api.Errno) {
		return func(puts [][]uint64) ([]uint64, api.Errno) {
			return tally.Ring(puts, places)
		}
	}
	return map[string]func(puts [][]uint64) ([]uint64, api.Errno){
		"queue":     tally.Queue,
		"ring 1":    ring(1),
		"ring 2":    ring(2),
		"ring 7":    ring(7),
		"ring 64":   ring(64),
		"ring 4096": ring(api.MaxRing),
	}
}

// P23.5, P23.10: just what was put in, each list in its own order.
func TestLinesOfSome(t *testing.T) {
	for _, shape := range shapes() {
		for range 20 {
			puts := unlike(shape[0], shape[1])
			for name, line := range lines() {
				came, errno := line(puts)
				if errno != api.OK || !isMerged(came, puts, false) {
					t.Fatal(name, came, errno)
				}
			}
		}
	}
}

// P23.6: each bit is of one in whose list it stands, and -1 if it stands in none; numbers that are no bits are left out.
func TestFlagsOfSome(t *testing.T) {
	r := rand.New(rand.NewSource(6))
	for _, shape := range shapes() {
		for _, bits := range []int{1, 2, 63, 64, 65, 4095, 4096} {
			sets := make([][]int, shape[0])
			for i := range sets {
				for range r.Intn(shape[1] + 1) {
					sets[i] = append(sets[i], r.Intn(bits+4)-2)
				}
			}
			first, errno := tally.Flags(sets, bits)
			ok(t, errno)
			if len(first) != bits {
				t.Fatal(len(first), bits)
			}
			for bit, i := range first {
				none := !slices.Contains(slices.Concat(sets...), bit)
				if none != (i == -1) || !none && !slices.Contains(sets[i], bit) {
					t.Fatal(bit, i)
				}
			}
		}
	}
}

// P23.7: one list is taken, as a whole, and everybody saw whose it is.
func TestCellOfSome(t *testing.T) {
	for _, shape := range shapes() {
		for range 50 {
			offers := unlike(shape[0], shape[1])
			offers[shape[0]/2] = nil
			list, saw, errno := tally.Cell(offers)
			ok(t, errno)
			if len(saw) != len(offers) || saw[0] < 0 || saw[0] >= len(offers) || !slices.Equal(list, offers[saw[0]]) {
				t.Fatal(list, saw)
			}
			if slices.Min(saw) != slices.Max(saw) {
				t.Fatal(saw)
			}
		}
	}
}

// P23.11: everybody sees, in each round, the sum of all numbers of that round.
func TestBarrierOfSome(t *testing.T) {
	r := rand.New(rand.NewSource(11))
	for _, shape := range shapes() {
		for range 10 {
			rows := draw(r, shape[0], shape[1], 1<<62)
			for i := range rows {
				rows[i] = append(rows[i], ^uint64(0), 5, ^uint64(6))
			}
			var want []uint64
			for round := range slices.MinFunc(rows, func(a, b []uint64) int { return len(a) - len(b) }) {
				var sum uint64
				for _, row := range rows {
					sum += row[round]
				}
				want = append(want, sum)
			}
			sums, errno := tally.Barrier(rows)
			ok(t, errno)
			if len(sums) != len(rows) {
				t.Fatal(len(sums))
			}
			for _, l := range sums {
				if !slices.Equal(l, want) {
					t.Fatal(l, want)
				}
			}
		}
	}
}

// P23.12: never more are in than may be.
func TestSemaphoreOfSome(t *testing.T) {
	for _, shape := range shapes() {
		for _, permits := range []int{1, 2, 3, 7, 64, 1 << 62} {
			for range 10 {
				most, times, errno := tally.Semaphore(shape[0], shape[1], permits)
				ok(t, errno)
				if most < 1 || most > min(permits, shape[0]) || times != shape[0]*shape[1] {
					t.Fatal(shape, permits, most, times)
				}
			}
		}
	}
}

// P23.13: readers see whole pairs, and none ahead of one that they saw.
func TestPairOfSome(t *testing.T) {
	between := 0
	for _, shape := range shapes() {
		for range 20 {
			readers, each := shape[0]-1, 10*shape[1]
			writes := make([]api.Pair, each)
			for i := range writes {
				writes[i] = api.Pair{Key: uint64(i + 1), Value: ^uint64(i)}
			}
			read, errno := tally.Pair(writes, readers, each)
			ok(t, errno)
			if len(read) != readers {
				t.Fatal(len(read))
			}
			for _, l := range read {
				between += checkRead(t, writes, l, each)
			}
		}
	}
	if manyCores() && between == 0 {
		t.Error("nobody read anything but the first and the last pair")
	}
}

// checkRead checks what one has read: how many pairs that are neither the first nor the last one.
func checkRead(t *testing.T, writes, l []api.Pair, each int) int {
	t.Helper()
	if len(l) != each {
		t.Fatal(len(l), each)
	}
	between, last := 0, 0
	for _, p := range l {
		at := int(p.Key) // how many were written by then
		whole := at == 0 && p == api.Pair{} || at >= 1 && at <= len(writes) && p == writes[at-1]
		if !whole || at < last {
			t.Fatal(p, "behind", last)
		}
		last = at
		if at > 0 && at < len(writes) {
			between++
		}
	}
	return between
}
