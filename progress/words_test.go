package progress_test

import (
	"math"
	"math/big"
	"math/rand"
	"slices"
	"testing"

	"shutter/api"
	"shutter/arena"
	"shutter/progress"
	"shutter/script"
	"shutter/step"
	"shutter/store"
)

// stepIn is the step of an access of a result.
func stepIn(r api.Result, i int) int {
	if i < len(r.Steps) {
		return r.Steps[i]
	}
	return -1
}

// ownByWords is Own, as the chapter says it.
func ownByWords(r api.Result) []int {
	var l []int
	for _, d := range r.Dids {
		n := 0
		for i, a := range r.Trace {
			at := stepIn(r, i)
			if a.Thread == d.Span.Thread && at >= d.Span.From && (d.Span.To == -1 || at <= d.Span.To) {
				n++
			}
		}
		if n == 0 {
			n = 1
		}
		l = append(l, n)
	}
	return l
}

// longestByWords is Longest, as the chapter says it: all rows are looked at.
func longestByWords(r api.Result) int {
	longest := 0
	for first := range r.Trace {
		for last := first; last < len(r.Trace); last++ {
			at := stepIn(r, last)
			if slices.ContainsFunc(r.Dids, func(d api.Did) bool { return d.Span.To != -1 && d.Span.To == at }) {
				break
			}
			longest = max(longest, last-first+1)
		}
	}
	return longest
}

// P19.1: Own and Longest of scripts that were done, and of what was spoilt of them.
func TestOwnAndLongestByWords(t *testing.T) {
	for seed := range uint64(400) {
		r := rand.New(rand.NewSource(int64(seed)))
		s, errno := script.Draw(seed, config, 1+r.Intn(4), r.Intn(5), r.Intn(150))
		if errno != api.OK {
			t.Fatal(errno)
		}
		got := run(t, s)
		for spoilt := range 4 {
			if o := progress.Own(got); !slices.Equal(o, ownByWords(got)) {
				t.Fatalf("seed %d, %d: %d, not %d", seed, spoilt, o, ownByWords(got))
			}
			if n := progress.Longest(got); n != longestByWords(got) {
				t.Fatalf("seed %d, %d: %d, not %d", seed, spoilt, n, longestByWords(got))
			}
			switch {
			case spoilt == 0:
				got.Steps = got.Steps[:len(got.Steps)/2]
			case len(got.Trace) == 0 || len(got.Dids) == 0:
			case spoilt == 1:
				for range 10 {
					got.Trace[r.Intn(len(got.Trace))].Thread = r.Intn(4)
					got.Dids[r.Intn(len(got.Dids))].Span.To = r.Intn(40) - 1
				}
			default:
				for range len(got.Steps) {
					got.Steps[r.Intn(len(got.Steps))] = r.Intn(30) - 1
				}
				got.Dids[r.Intn(len(got.Dids))].Span.From = r.Intn(20) - 1
			}
		}
	}
}

// later is a call of a script; when it begins, its Ref is looked up.
type later struct {
	store *store.Store
	calls [][]*later
	op    api.Op
	call  *store.Call
	over  bool
}

func (p *later) Step(v *arena.View) bool {
	if p.call == nil {
		if ref := p.op.Ref; ref.Set {
			p.op.Handle = 0
			if ref.Thread < len(p.calls) && ref.Index < len(p.calls[ref.Thread]) && p.calls[ref.Thread][ref.Index].over {
				p.op.Handle = p.calls[ref.Thread][ref.Index].call.Answer().Handle
			}
		}
		p.call = p.store.Call(p.op)
	}
	p.over = p.call.Step(v)
	return p.over
}

// measureByWords is Measure, of a script that is done by the store's calls and a runner.
func measureByWords(t *testing.T, c api.Config, s api.Script) api.Bounds {
	t.Helper()
	m, errno := store.New(c)
	if errno != api.OK {
		t.Fatal(errno)
	}
	calls, procs := make([][]*later, len(s.Threads)), make([][]step.Proc, len(s.Threads))
	for i, ops := range s.Threads {
		for _, op := range ops {
			p := &later{store: m, calls: calls, op: op}
			calls[i] = append(calls[i], p)
			procs[i] = append(procs[i], p)
		}
	}
	runner, errno := step.New(m.Memory(), procs)
	if errno != api.OK {
		t.Fatal(errno)
	}
	runner.Run(s.Picks)
	b := api.Bounds{Threads: len(s.Threads), Branches: branchesFrom(m.Memory(), m.Tree().Root), Versions: 1, Slots: c.Slots, Multi: c.Multi}
	for _, a := range m.Memory().Trace() {
		if a.Kind == api.Cas && a.Ok {
			b.Versions++
		}
	}
	return b
}

// branchesFrom is how many branches can be come to from one, it included: cell by cell.
func branchesFrom(m *arena.Memory, branch uint64) int {
	n := 1
	for object := branch; object < branch+64; object++ {
		version := m.Peek(object)
		if version == 0 {
			continue
		}
		if w := m.Peek(version); w != 0 && w%2 == 0 {
			n += branchesFrom(m, w/2)
		}
	}
	return n
}

// P19.2, P19.3, P19.4: drawn scripts, with memory that lasts or not: what Measure tells; no row without a return is above Bound, no Snapshot or Release above Constant.
func TestDrawnScripts(t *testing.T) {
	kinds, most, longest := map[api.OpKind]int{}, 0, 0
	for seed := range uint64(1500) {
		r := rand.New(rand.NewSource(int64(seed)))
		c := api.Config{Cells: 1 << 12, Slots: 1 + r.Intn(5), Stamps: uint64(1 + r.Intn(20)), Multi: 1 + r.Intn(4)}
		if seed%4 == 0 {
			c.Cells = 128 + r.Intn(300)
		}
		s, errno := script.Draw(seed, c, 1+r.Intn(5), r.Intn(16), r.Intn(1500))
		if errno != api.OK {
			t.Fatal(errno)
		}
		// The Config that is handed in holds, not the script's.
		s.Config = api.Config{}
		b, errno := progress.Measure(c, s)
		if want := measureByWords(t, c, s); errno != api.OK || b != want {
			t.Fatalf("seed %d: %+v, %d, not %+v", seed, b, errno, want)
		}
		s.Config = c
		got := run(t, s)
		if n := progress.Longest(got); n > progress.Bound(b) {
			t.Fatalf("seed %d: %d, above %d", seed, n, progress.Bound(b))
		}
		longest = max(longest, progress.Longest(got))
		most = max(most, b.Branches)
		own := progress.Own(got)
		for i, d := range got.Dids {
			kinds[d.Op.Kind]++
			if limit := progress.Constant(c, d.Op.Kind); limit >= 0 && own[i] > limit {
				t.Fatalf("seed %d: %+v took %d steps", seed, d, own[i])
			}
		}
	}
	if most < 8 || longest < 80 || kinds[api.Snapshot] < 500 || kinds[api.Release] < 500 {
		t.Error("too little has come up:", most, longest, kinds)
	}
}

// P19.4: Snapshots that others get between all the time, with slots that are taken, take as many steps as Constant says at most, and some just so many.
func TestCrowdedSnapshots(t *testing.T) {
	for slots := 1; slots < 6; slots++ {
		c := api.Config{Cells: 1000, Slots: slots, Stamps: 1000, Multi: 1}
		limit, most := progress.Constant(c, api.Snapshot), 0
		for seed := range int64(300) {
			r := rand.New(rand.NewSource(seed))
			s := api.Script{Config: c}
			for range 2 + r.Intn(5) {
				s.Threads = append(s.Threads, []api.Op{{Kind: api.Snapshot}, {Kind: api.Release, Handle: uint64(1 + r.Intn(slots))}, {Kind: api.Snapshot}})
			}
			for range 400 {
				s.Picks = append(s.Picks, r.Intn(len(s.Threads)))
			}
			got := run(t, s)
			for i, n := range progress.Own(got) {
				if got.Dids[i].Op.Kind == api.Snapshot {
					most = max(most, n)
				} else if n > 2 {
					t.Fatalf("%+v took %d steps", got.Dids[i], n)
				}
			}
		}
		if most > limit || most < limit-2 {
			t.Errorf("%d slots: a Snapshot took %d steps, and %d is the limit", slots, most, limit)
		}
	}
}

// boundByWords is Bound, as the chapter says it, by numbers without a limit.
func boundByWords(b api.Bounds) *big.Int {
	number := func(n int) *big.Int { return big.NewInt(int64(n)) }
	part := func(n int) *big.Int { return number(max(n, 0)) }
	add := func(l ...*big.Int) *big.Int {
		sum := new(big.Int)
		for _, n := range l {
			sum.Add(sum, n)
		}
		return sum
	}
	times := func(l ...*big.Int) *big.Int {
		product := number(1)
		for _, n := range l {
			product.Mul(product, n)
		}
		return product
	}
	v := add(part(b.Versions), number(1))
	way := number(11 * 5)
	fork := number(2 + 2*11)
	one := add(way, number(2), number(1), fork, number(14))
	query := add(times(number(11), add(number(4), times(number(2), v))), number(2))
	walk := times(number(64), part(b.Branches), add(number(6), times(number(3), v)))
	q := one
	for _, n := range []*big.Int{
		add(number(2), times(part(b.Multi), query)),
		add(number(2), walk, times(number(2*64), part(b.Branches))),
		add(part(b.Slots), number(1), walk, times(number(5*64), part(b.Branches))),
		add(times(number(2), part(b.Slots)), number(5)),
	} {
		if n.Cmp(q) > 0 {
			q = n
		}
	}
	return times(part(b.Threads), add(part(b.Threads), number(1)), q)
}

// P19.1: Bound of drawn numbers, small and great.
func TestBoundByWords(t *testing.T) {
	r := rand.New(rand.NewSource(1))
	draw := func() int { return int(r.Uint64()>>(1+r.Intn(63))) - r.Intn(2) }
	limit, above := big.NewInt(math.MaxInt), 0
	for range 20000 {
		b := api.Bounds{Threads: draw(), Branches: draw(), Versions: draw(), Slots: draw(), Multi: draw()}
		if r.Intn(2) == 0 {
			b = api.Bounds{Threads: r.Intn(64), Branches: r.Intn(9), Versions: draw(), Slots: r.Intn(300), Multi: r.Intn(2000) * r.Intn(2)}
		}
		want := boundByWords(b)
		if want.Cmp(limit) > 0 {
			above++
			want = limit
		}
		if got := progress.Bound(b); want.Cmp(big.NewInt(int64(got))) != 0 {
			t.Fatalf("%+v: %d, not %d", b, got, want)
		}
	}
	if above < 1000 || above > 19000 {
		t.Error("too little has come up:", above)
	}
}
