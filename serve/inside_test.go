package serve

import (
	"slices"
	"testing"

	"shutter/api"
	"shutter/crew"
)

func config() api.Config {
	return api.Config{Cells: 1 << 16, Slots: 2, Stamps: 100, Multi: 4}
}

// puts are clients that put so many keys each, of which no two are alike.
func puts(clients, each int) [][]api.Op {
	l := make([][]api.Op, clients)
	for i := range l {
		for k := range each {
			l[i] = append(l[i], api.Op{Kind: api.Put, Key: uint64(i*each + k), Value: 1})
		}
	}
	return l
}

// P26.1, P26.4: no more than so many are done, not only told: as many keys are there.
func TestUntilDoesNoMore(t *testing.T) {
	const clients, each = 6, 30
	for _, most := range []int{-1, 0, 1, 2, 50, clients*each - 1, clients * each, clients*each + 1} {
		for workers := 1; workers < 6; workers++ {
			d, errno := newDesk(config(), workers, puts(clients, each), most)
			if errno != api.OK {
				t.Fatal(errno)
			}
			d.serve()
			if got, want := len(d.store.Content()), min(max(most, 0), clients*each); got != want {
				t.Error(got, "were done, not", want)
			}
			var told []uint64
			for i, answers := range d.told {
				for k := range answers {
					told = append(told, d.clients[i][k].Key)
				}
			}
			slices.Sort(told)
			for i, p := range d.store.Content() {
				if p.Key != told[i] {
					t.Fatal(p, "was done, and told nobody:", told)
				}
			}
		}
	}
}

// P26.4: leave is given so many times, whoever asks when.
func TestMayAsk(t *testing.T) {
	const all, most = 8, 1000
	for range 1000 {
		d := &desk{most: most}
		got := make([]int, all)
		crew.Together(all, func(i int) {
			for d.mayAsk() {
				got[i]++
			}
		})
		sum := 0
		for _, n := range got {
			sum += n
		}
		if sum != most {
			t.Fatal(sum)
		}
	}
}

// A worker that has not got rid of its answer holds nobody else up: others take what is asked then.
func TestWorkersShare(t *testing.T) {
	const workers = 3
	d, errno := newDesk(config(), workers, nil, 0)
	if errno != api.OK {
		t.Fatal(errno)
	}
	staff := crew.Begin(workers, d.work)
	var answers []chan api.Answer
	for i := range workers {
		answers = append(answers, make(chan api.Answer))
		d.questions <- question{op: api.Op{Kind: api.Put, Key: 7, Value: uint64(i + 1)}, answer: answers[i]}
	}
	nothing := 0
	for i := range workers {
		if a := <-answers[workers-1-i]; !a.Found {
			nothing++
		}
	}
	if nothing != 1 {
		t.Error(nothing)
	}
	// One who ends when nobody asks any more has no question left.
	close(d.ended)
	staff.Wait()
}

// P26.6: what is other in a map than in another one: keys below, amid, above, with the same value or not.
func TestChanges(t *testing.T) {
	pair := func(l ...uint64) []api.Pair {
		var pairs []api.Pair
		for i := 0; i < len(l); i += 2 {
			pairs = append(pairs, api.Pair{Key: l[i], Value: l[i+1]})
		}
		return pairs
	}
	gone := func(key uint64) Change { return Change{Key: key, Gone: true} }
	now := func(key, value uint64) Change { return Change{Key: key, Value: value} }
	const last = 1<<64 - 1
	for _, x := range []struct {
		from, to []api.Pair
		want     []Change
	}{
		{nil, nil, nil},
		{nil, pair(0, 0), []Change{now(0, 0)}},
		{pair(0, 0), nil, []Change{gone(0)}},
		{pair(0, 0), pair(0, 0), nil},
		{pair(0, 0), pair(0, 1), []Change{now(0, 1)}},
		{pair(last, 1), pair(last, 0), []Change{now(last, 0)}},
		{pair(0, 5), pair(last, 5), []Change{gone(0), now(last, 5)}},
		{pair(last, 5), pair(0, 5), []Change{now(0, 5), gone(last)}},
		{pair(1, 1, 2, 2, 3, 3), pair(1, 1, 3, 3), []Change{gone(2)}},
		{pair(1, 1, 3, 3), pair(1, 1, 2, 2, 3, 3), []Change{now(2, 2)}},
		{pair(1, 1, 2, 2, 3, 3, 9, 9), pair(0, 1, 2, 5, 3, 3, 4, 4), []Change{now(0, 1), gone(1), now(2, 5), now(4, 4), gone(9)}},
	} {
		if got := changes(x.from, x.to); !slices.Equal(got, x.want) {
			t.Error(x.from, x.to, got)
		}
	}
}

// P26.6: a picture is one that is there, of all keys; the handle is let go; where there is an error it is none.
func TestPicture(t *testing.T) {
	d, errno := newDesk(config(), 1, nil, 0)
	if errno != api.OK {
		t.Fatal(errno)
	}
	p := newPublisher(d, 0)
	want := []api.Pair{{Key: 0, Value: 5}, {Key: 1<<64 - 1, Value: 6}}
	for _, pair := range want {
		tell(d.store, p.view, api.Op{Kind: api.Put, Key: pair.Key, Value: pair.Value})
	}
	for range 10 {
		if pairs, ok := p.picture(); !ok || !slices.Equal(pairs, want) {
			t.Fatal(pairs, ok)
		}
	}
	for range config().Slots {
		if a := tell(d.store, p.view, api.Op{Kind: api.Snapshot}); a.Errno != api.OK {
			t.Fatal("a slot was not let go:", a)
		}
	}
	if pairs, ok := p.picture(); ok || len(pairs) != 0 {
		t.Error(pairs, ok)
	}
}
