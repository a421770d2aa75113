package replay_test

import (
	"math/rand"
	"reflect"
	"slices"
	"testing"

	"shutter/api"
	"shutter/explore"
	"shutter/replay"
	"shutter/script"
)

// spokenSwaps are Swaps as the chapter says them.
func spokenSwaps(r api.Result) []int {
	step := func(i int) int {
		if i >= len(r.Steps) {
			return -1
		}
		return r.Steps[i]
	}
	edge := func(i int) bool {
		return slices.ContainsFunc(r.Dids, func(d api.Did) bool {
			if d.Span.Thread != r.Trace[i].Thread {
				return false
			}
			return d.Span.From == step(i) || d.Span.To >= 0 && d.Span.To == step(i)
		})
	}
	var l []int
	for i := range r.Trace {
		if i+1 == len(r.Trace) || edge(i) || edge(i+1) {
			continue
		}
		a, b := r.Trace[i], r.Trace[i+1]
		if a.Thread != b.Thread && step(i) != step(i+1) && !explore.Clash(a, b) {
			l = append(l, i)
		}
	}
	return l
}

func did(thread, from, to int) api.Did {
	return api.Did{Span: api.Span{Thread: thread, From: from, To: to}}
}

// P21.3: each of what it says, by results that differ in that alone.
func TestSwaps(t *testing.T) {
	a, b := load(0, 5, 0), put(1, 6, 7)
	for _, c := range []struct {
		name string
		r    api.Result
		want []int
	}{
		{"nothing", api.Result{}, nil},
		{"one", api.Result{Trace: []api.Access{a}, Steps: []int{0}}, nil},
		{"unlike cells", api.Result{Trace: []api.Access{a, b}, Steps: []int{0, 1}}, []int{0}},
		{"one thread", api.Result{Trace: []api.Access{a, put(0, 6, 7)}, Steps: []int{0, 1}}, nil},
		{"one step", api.Result{Trace: []api.Access{a, b}, Steps: []int{4, 4}}, nil},
		{"a clash", api.Result{Trace: []api.Access{a, put(1, 5, 7)}, Steps: []int{0, 1}}, nil},
		{"two loads", api.Result{Trace: []api.Access{a, load(1, 5, 0)}, Steps: []int{0, 1}}, []int{0}},
		{"a Cas that was not done", api.Result{Trace: []api.Access{a, cas(1, 5, 1, 2, false)}, Steps: []int{0, 1}}, []int{0}},
		{"a Cas that was done", api.Result{Trace: []api.Access{a, cas(1, 5, 0, 2, true)}, Steps: []int{0, 1}}, nil},
		{"two Allocs", api.Result{Trace: []api.Access{alloc(0, 1, 5), alloc(1, 2, 5)}, Steps: []int{0, 1}}, nil},
		{"an Alloc and a Load", api.Result{Trace: []api.Access{alloc(0, 1, 5), load(1, 1, 5)}, Steps: []int{0, 1}}, []int{0}},
		{"no steps", api.Result{Trace: []api.Access{a, b}}, nil},
		{"one step too few", api.Result{Trace: []api.Access{a, b}, Steps: []int{0}}, []int{0}},
		{"steps too many", api.Result{Trace: []api.Access{a, b}, Steps: []int{0, 1, 2, 3}}, []int{0}},
		{"the first begins", api.Result{Dids: []api.Did{did(0, 3, 9)}, Trace: []api.Access{a, b}, Steps: []int{3, 4}}, nil},
		{"the first returns", api.Result{Dids: []api.Did{did(0, 1, 3)}, Trace: []api.Access{a, b}, Steps: []int{3, 4}}, nil},
		{"the second begins", api.Result{Dids: []api.Did{did(1, 4, 9)}, Trace: []api.Access{a, b}, Steps: []int{3, 4}}, nil},
		{"the second returns", api.Result{Dids: []api.Did{did(1, 2, 4)}, Trace: []api.Access{a, b}, Steps: []int{3, 4}}, nil},
		{"between first and last", api.Result{Dids: []api.Did{did(0, 2, 4), did(1, 3, 5)}, Trace: []api.Access{a, b}, Steps: []int{3, 4}}, []int{0}},
		{"another thread's", api.Result{Dids: []api.Did{did(1, 3, 3), did(0, 4, 4), did(2, 3, 4)}, Trace: []api.Access{a, b}, Steps: []int{3, 4}}, []int{0}},
		{"pending has no last step", api.Result{Dids: []api.Did{did(1, 0, -1)}, Trace: []api.Access{a, b}, Steps: []int{3}}, []int{0}},
		{"rising", api.Result{Trace: []api.Access{a, b, a, b}, Steps: []int{0, 1, 2, 3}}, []int{0, 1, 2}},
		{"no kind", api.Result{Trace: []api.Access{{Addr: 1}, {Thread: 1, Kind: 99, Addr: 2}}, Steps: []int{0, 1}}, []int{0}},
	} {
		if got := replay.Swaps(c.r); !slices.Equal(got, c.want) {
			t.Errorf("%s: %d", c.name, got)
		}
	}
}

// P21.3: of any result, made by a run or not.
func TestSwapsOfAny(t *testing.T) {
	r := rand.New(rand.NewSource(3))
	for range 3000 {
		var x api.Result
		for range r.Intn(8) {
			a := someAccess(r)
			a.Addr %= 2
			x.Trace = append(x.Trace, a)
			x.Steps = append(x.Steps, len(x.Steps)-1+r.Intn(2))
		}
		for range r.Intn(4) {
			x.Dids = append(x.Dids, did(r.Intn(4)-1, r.Intn(8)-1, r.Intn(8)-2))
		}
		x.Steps = x.Steps[:len(x.Steps)-r.Intn(min(len(x.Steps), 2)+1)]
		if got := replay.Swaps(x); !slices.Equal(got, spokenSwaps(x)) {
			t.Fatalf("%+v: %d", x, got)
		}
	}
	for _, s := range drawn(t, 200) {
		x := run(t, s)
		if got := replay.Swaps(x); !slices.Equal(got, spokenSwaps(x)) {
			t.Fatalf("%s: %d", textOf(t, s), got)
		}
	}
}

// What Swaps is for: two steps one behind the other that change places let all tell the same, and the trace has them so.
func TestSwapsChangePlaces(t *testing.T) {
	tried := 0
	for seed := range uint64(60) {
		s, _ := script.Draw(seed, config(), 3, 3, 90)
		ahead := run(t, s)
		for _, i := range replay.Swaps(ahead) {
			first := ahead.Steps[i]
			if ahead.Steps[i+1] != first+1 {
				continue
			}
			tried++
			other := withPicks(s, slices.Clone(s.Picks))
			other.Picks[first], other.Picks[first+1] = other.Picks[first+1], other.Picks[first]
			ahead.Trace[i], ahead.Trace[i+1] = ahead.Trace[i+1], ahead.Trace[i]
			if behind := run(t, other); !reflect.DeepEqual(behind, ahead) {
				t.Fatalf("%s: %d", textOf(t, s), i)
			}
			ahead.Trace[i], ahead.Trace[i+1] = ahead.Trace[i+1], ahead.Trace[i]
		}
	}
	if tried < 100 {
		t.Error("tried:", tried)
	}
}

// P3: what is handed in stays.
func TestSwapsKeepsAll(t *testing.T) {
	s, _ := script.Draw(5, config(), 3, 3, 90)
	r, kept := run(t, s), run(t, s)
	l := replay.Swaps(r)
	if len(l) == 0 || !reflect.DeepEqual(r, kept) {
		t.Fatal(l)
	}
	l[0] = 99
	if replay.Swaps(r)[0] == 99 {
		t.Error("kept")
	}
}
