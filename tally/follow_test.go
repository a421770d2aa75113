package tally_test

import (
	"math/rand"
	"reflect"
	"slices"
	"testing"

	"shutter/api"
	"shutter/tally"
)

// P23.9, P23.14: one goroutine alone leaves what one thing done behind the other leaves.
func TestOfOneAlone(t *testing.T) {
	r := rand.New(rand.NewSource(9))
	for range 200 {
		lists := draw(r, 1, 30, 20)
		list := lists[0]
		var sum, most uint64
		var taken []bool
		for _, n := range list {
			sum += n
			taken = append(taken, n > most)
			most = max(most, n)
		}
		if n, errno := tally.Count(lists); n != sum || errno != api.OK {
			t.Fatal(n, sum)
		}
		if n, took, errno := tally.Most(lists); n != most || errno != api.OK || !slices.Equal(took[0], taken) {
			t.Fatal(list, n, took)
		}
		backward := slices.Clone(list)
		slices.Reverse(backward)
		if popped, errno := tally.Stack(lists); errno != api.OK || !slices.Equal(popped[0], backward) {
			t.Fatal(list, popped)
		}
		for name, line := range lines() {
			if came, errno := line(lists); errno != api.OK || !slices.Equal(came, list) {
				t.Fatal(name, list, came)
			}
		}
		if l, saw, errno := tally.Cell(lists); errno != api.OK || !slices.Equal(l, list) || !slices.Equal(saw, []int{0}) {
			t.Fatal(list, l, saw)
		}
		if sums, errno := tally.Barrier(lists); errno != api.OK || !slices.Equal(sums[0], list) {
			t.Fatal(list, sums)
		}
		first, errno := tally.Flags(ints(lists), 20)
		for bit, i := range first {
			if errno != api.OK || (i == 0) != slices.Contains(list, uint64(bit)) {
				t.Fatal(list, first)
			}
		}
	}
}

// P23.9: tickets and a semaphore of one alone.
func TestNumbersOfOneAlone(t *testing.T) {
	if l, errno := tally.Tickets(1, 4); errno != api.OK || !reflect.DeepEqual(l, [][]uint64{{0, 1, 2, 3}}) {
		t.Error(l, errno)
	}
	for permits := 1; permits < 4; permits++ {
		if most, times, errno := tally.Semaphore(1, 4, permits); most != 1 || times != 4 || errno != api.OK {
			t.Error(most, times, errno)
		}
	}
}

// P23.8: at most as many offers are taken as there are unlike numbers above 0, also where all offer the same.
func TestOffersTaken(t *testing.T) {
	for range 200 {
		offers := slices.Repeat([][]uint64{{0, 1, 2, 2, 3, 0, 3}}, 16)
		most, taken, errno := tally.Most(offers)
		ok(t, errno)
		checkTaken(t, offers, most, taken)
		count := 0
		for _, took := range slices.Concat(taken...) {
			if took {
				count++
			}
		}
		if most != 3 || count > 3 {
			t.Fatal(most, count)
		}
	}
}

// E8: where goroutines are under way at one time, they get between one another, and all is as it must be.
func TestGoroutinesMeet(t *testing.T) {
	if !manyCores() {
		t.Skip("one core")
	}
	var tickets, stacks, queues, rings bool
	for try := 0; try < 500 && !(tickets && stacks && queues && rings); try++ {
		lists := unlike(8, 2000)
		taken, _ := tally.Tickets(8, 2000)
		tickets = tickets || slices.ContainsFunc(taken, hasGap)
		popped, _ := tally.Stack(lists)
		stacks = stacks || slices.ContainsFunc(popped, func(l []uint64) bool { return len(l) > 0 && len(l) < 16000 })
		came, _ := tally.Queue(lists)
		queues = queues || turns(came, 2000) > 8
		came, _ = tally.Ring(lists, 4)
		rings = rings || turns(came, 2000) > 8
	}
	if !tickets || !stacks || !queues || !rings {
		t.Error("each was by itself:", tickets, stacks, queues, rings)
	}
}

// hasGap tells whether another one took a ticket between two of these.
func hasGap(l []uint64) bool {
	return len(l) > 1 && l[len(l)-1]-l[0] >= uint64(len(l))
}

// turns is how often what came is of another list than what came ahead of it, and 1.
func turns(came []uint64, each uint64) int {
	count := 1
	for i := 1; i < len(came); i++ {
		if (came[i]-1)/each != (came[i-1]-1)/each {
			count++
		}
	}
	return count
}

// P23.1, E8: no number is lost where all add at one time.
func TestCountOfMany(t *testing.T) {
	ones := slices.Repeat([][]uint64{slices.Repeat([]uint64{1}, api.MaxCalls)}, api.MaxFree)
	for range 50 {
		if n, errno := tally.Count(ones); n != api.MaxFree*api.MaxCalls || errno != api.OK {
			t.Fatal(n, errno)
		}
	}
}

// P23.3, P23.8, E8: where all offer the same at one time, each number is taken once at most, and none behind a greater one.
func TestMostOfMany(t *testing.T) {
	rising := make([]uint64, api.MaxCalls)
	for i := range rising {
		rising[i] = uint64(i + 1)
	}
	offers := slices.Repeat([][]uint64{rising}, 16)
	for range 50 {
		most, taken, errno := tally.Most(offers)
		ok(t, errno)
		if most != api.MaxCalls {
			t.Fatal(most)
		}
		times := make([]int, api.MaxCalls)
		for i := range taken {
			for k, took := range taken[i] {
				if took {
					times[k]++
				}
			}
		}
		if slices.Max(times) > 1 || times[api.MaxCalls-1] != 1 {
			t.Fatal("a number was taken twice, or the greatest one never")
		}
	}
}

// P23.6, E8: where all set all bits at one time, each has one that was first, and no bit is lost.
func TestFlagsOfMany(t *testing.T) {
	bits := make([]int, api.MaxCalls)
	for i := range bits {
		bits[i] = i
	}
	for range 50 {
		first, errno := tally.Flags(slices.Repeat([][]int{bits}, 16), len(bits))
		ok(t, errno)
		if slices.Min(first) < 0 || slices.Max(first) > 15 {
			t.Fatal(first)
		}
	}
}
