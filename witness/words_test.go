package witness_test

import (
	"math/rand"
	"slices"
	"testing"

	"shutter/api"
	"shutter/script"
	"shutter/witness"
)

// spoken tells of a result what the chapter's words say, word by word, however long that takes.
type spoken struct {
	api.Result
}

func (w spoken) isObject(i int) bool {
	addr := w.Trace[i].Addr
	if addr >= 2 && addr <= 65 {
		return true
	}
	for _, a := range w.Trace[:i] {
		if a.Kind == api.Alloc && len(a.Values) == 64 && a.Addr != 0 && addr-a.Addr < 64 {
			return true
		}
	}
	return false
}

func (w spoken) installs(i int) bool {
	a := w.Trace[i]
	return a.Kind == api.Cas && a.Ok && a.B != 0 && w.isObject(i)
}

// stamp is that of the version that the access i installed: the stamp, and the step at which it was read.
func (w spoken) stamp(i int) (uint64, int) {
	for j := i + 1; j < len(w.Trace); j++ {
		a := w.Trace[j]
		if a.Kind != api.Cas || !a.Ok || a.Addr != w.Trace[i].B+1 || a.A != 0 {
			continue
		}
		for k := j - 1; k >= 0; k-- {
			if b := w.Trace[k]; b.Kind == api.Load && b.Addr == 1 && b.Thread == a.Thread {
				return a.B, w.Steps[k]
			}
		}
		break
	}
	return 0, -1
}

func (w spoken) stamps() []witness.Stamp {
	var l []witness.Stamp
	for i, a := range w.Trace {
		if w.installs(i) {
			stamp, read := w.stamp(i)
			l = append(l, witness.Stamp{Version: a.B, Stamp: stamp, Installed: w.Steps[i], Read: read})
		}
	}
	return l
}

// last is the last access of a Did of which something holds, -1 if there is none.
func (w spoken) last(d api.Did, holds func(i int) bool) int {
	for i := len(w.Trace) - 1; i >= 0; i-- {
		step := w.Steps[i]
		if w.Trace[i].Thread == d.Span.Thread && step >= d.Span.From && (d.Span.To < 0 || step <= d.Span.To) && holds(i) {
			return i
		}
	}
	return -1
}

func (w spoken) point(d api.Did) witness.Point {
	if i := w.last(d, w.installs); i >= 0 {
		_, read := w.stamp(i)
		if read < 0 {
			return witness.Point{}
		}
		return at(read, 0)
	}
	if d.Span.To < 0 {
		return witness.Point{}
	}
	if d.Answer.Errno != api.OK {
		return at(d.Span.To, 1)
	}
	switch d.Op.Kind {
	case api.Get, api.Put, api.Delete, api.Swap:
		i := w.last(d, func(i int) bool { return w.Trace[i].Kind == api.Load && w.isObject(i) })
		if i < 0 {
			break
		}
		latest := w.Steps[i]
		for j := range i {
			if _, read := w.stamp(j); w.installs(j) && w.Trace[j].B == w.Trace[i].Got && read > latest {
				latest = read
			}
		}
		return at(latest, 1)
	case api.Snapshot:
		i := w.last(d, func(i int) bool { return w.Trace[i].Kind == api.Load && w.Trace[i].Addr == 1 })
		for j, a := range w.Trace {
			if i >= 0 && a.Kind == api.Cas && a.Ok && a.Addr == 1 && a.A == w.Trace[i].Got {
				return at(w.Steps[j], 0)
			}
		}
		return at(d.Span.To, 0)
	case api.Release:
		return at(d.Span.To, 1)
	}
	return at(d.Span.From, 1)
}

func (w spoken) points() []witness.Point {
	var l []witness.Point
	for _, d := range w.Dids {
		l = append(l, w.point(d))
	}
	return l
}

func (w spoken) order() []int {
	points := w.points()
	var l []int
	for i, p := range points {
		at := 0
		for at < len(l) && !(p.Step < points[l[at]].Step || p.Step == points[l[at]].Step && p.Rank < points[l[at]].Rank) {
			at++
		}
		if p.Some {
			l = slices.Insert(l, at, i)
		}
	}
	return l
}

func checkWords(t *testing.T, r api.Result) {
	t.Helper()
	w := spoken{r}
	check(t, r, w.stamps(), w.points(), w.order())
	if t.Failed() {
		t.Fatalf("%+v", r)
	}
}

// P18.2: drawn scripts, by the chapter's words.
func TestAsTheChapterSays(t *testing.T) {
	for seed := range uint64(300) {
		s, errno := script.Draw(seed, config, 1+int(seed%4), 1+int(seed%6), int(seed%7)*60)
		if errno != api.OK {
			t.Fatal(errno)
		}
		checkWords(t, run(t, s))
	}
}

// drawResult is one that no store made: accesses of few cells, that have nothing to do with one another.
func drawResult(r *rand.Rand) api.Result {
	var result api.Result
	addrs := []uint64{0, 1, 1, 1, 2, 3, 4, 65, 66, 70, 71, 72, 100, 133, 134}
	addr := func() uint64 { return addrs[r.Intn(len(addrs))] }
	step := 0
	for range r.Intn(60) {
		step += 1 + r.Intn(2)*r.Intn(3)
		a := api.Access{Thread: r.Intn(3) - 1, Kind: api.AccessKind(r.Intn(7)), Addr: addr(), A: uint64(r.Intn(3)), B: addr(), Got: addr(), Ok: r.Intn(4) > 0}
		if r.Intn(2) == 0 {
			a.Kind, a.A = api.Cas, 0
		}
		if a.Kind == api.Load && a.Addr == 1 {
			a.Got = uint64(r.Intn(3))
		}
		if a.Kind == api.Alloc {
			a.Values = make([]uint64, 64-r.Intn(2)*r.Intn(3))
		}
		result.Trace = append(result.Trace, a)
		result.Steps = append(result.Steps, step)
	}
	free := [3]int{} // of each thread: from which step on it may begin
	index := [3]int{}
	for from := range step + 1 {
		thread := r.Intn(3)
		if r.Intn(3) > 0 || free[thread] < 0 || free[thread] > from || from%3 != thread {
			continue
		}
		// Steps of unlike threads differ by what they leave when they are divided by three.
		to := from + 3*r.Intn(6)
		if free[thread] = to + 1; r.Intn(12) == 0 {
			free[thread], to = -1, -1
		}
		d := api.Did{Span: api.Span{Thread: thread - 1, Index: index[thread], From: from, To: to}, Op: api.Op{Kind: api.OpKind(r.Intn(12))}}
		if r.Intn(8) == 0 {
			d.Answer.Errno = api.ErrSlot
		}
		index[thread]++
		result.Dids = append(result.Dids, d)
	}
	return result
}

// P18.1, P18.2: results that store.Run did not make, by the chapter's words.
func TestMadeResults(t *testing.T) {
	set, twice := 0, 0
	for seed := range int64(8000) {
		result := drawResult(rand.New(rand.NewSource(seed)))
		checkWords(t, result)
		seen := map[uint64]int{}
		for _, s := range (spoken{result}).stamps() {
			if s.Read >= 0 {
				set++
			}
			if seen[s.Version]++; seen[s.Version] == 2 {
				twice++
			}
		}
	}
	if set < 500 || twice < 500 {
		t.Error("too few:", set, twice)
	}
}
