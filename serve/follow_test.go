package serve_test

import (
	"math"
	"math/rand"
	"runtime"
	"slices"
	"testing"

	"shutter/api"
	"shutter/crew"
	"shutter/model"
	"shutter/serve"
)

// manyCores tells whether goroutines can be under way at one time: on one core they get between one another too seldom to be waited for.
func manyCores() bool {
	return runtime.GOMAXPROCS(0) > 1 && runtime.NumCPU() > 1
}

// changesOf draws operations of one key each, of those whose remainder by all is this client's number.
func changesOf(r *rand.Rand, client, all, count int) []api.Op {
	var l []api.Op
	for range count {
		op := api.Op{Kind: api.Get + api.OpKind(r.Intn(4)), Key: uint64(r.Intn(5)*all + client)}
		switch op.Kind {
		case api.Put:
			op.Value = uint64(r.Intn(3))
		case api.Swap:
			op.Old, op.Value = uint64(r.Intn(3)), uint64(r.Intn(3))
		}
		l = append(l, op)
	}
	return l
}

// clientsApart draws clients that use no keys of one another.
func clientsApart(seed int64, all, count int) [][]api.Op {
	r := rand.New(rand.NewSource(seed))
	var clients [][]api.Op
	for i := range all {
		clients = append(clients, changesOf(r, i, all, r.Intn(count+1)))
	}
	return clients
}

// checkApart checks that clients that use no keys of one another were told what the model tells, as far as they were told something: what is there in the end, and how often memory was short.
func checkApart(t *testing.T, clients [][]api.Op, l [][]api.Answer) ([]api.Pair, int) {
	t.Helper()
	whole, _ := model.New(4)
	short := 0
	for i, told := range l {
		m, _ := model.New(4)
		for k, a := range told {
			op := clients[i][k]
			if a.Errno == api.ErrMemory && op.Kind != api.Get {
				short++
				continue
			}
			if want := m.Do(op, 0); !model.SameAnswer(a, want) {
				t.Fatalf("client %d: %+v: %+v, not %+v", i, op, a, want)
			}
		}
		for _, p := range m.Content() {
			whole.Do(api.Op{Kind: api.Put, Key: p.Key, Value: p.Value}, 0)
		}
	}
	return whole.Content(), short
}

// P26.3, P26.7 (E8): clients that use no keys of one another, by few workers and many.
func TestClientsApart(t *testing.T) {
	c := config()
	c.Cells = 1 << 16
	for seed := range int64(60) {
		clients := clientsApart(seed, 1+int(seed%9), 60)
		for _, w := range ways() {
			for _, workers := range []int{1, 2, 7} {
				l, errno := w.run(c, workers, clients)
				if errno != api.OK || len(l) != len(clients) {
					t.Fatal(w.name, errno, len(l))
				}
				for i, told := range l {
					if len(told) != len(clients[i]) {
						t.Fatal(w.name, len(told), len(clients[i]))
					}
				}
				if _, short := checkApart(t, clients, l); short > 0 {
					t.Fatal(w.name, short)
				}
			}
		}
	}
}

// P26.3 (E6): where memory is short, the others go on, and so do those that were told so.
func TestMemoryShort(t *testing.T) {
	c := api.Config{Cells: 300, Slots: 1, Stamps: 100, Multi: 4}
	shorts := 0
	for seed := range int64(30) {
		clients := clientsApart(seed, 6, 60)
		for _, w := range ways() {
			l, errno := w.run(c, 3, clients)
			if errno != api.OK {
				t.Fatal(errno)
			}
			_, short := checkApart(t, clients, l)
			shorts += short
		}
	}
	if shorts == 0 {
		t.Error("memory was never short")
	}
}

// alone draws operations of all kinds, and of none, for one client.
func alone(r *rand.Rand, count int) []api.Op {
	var l []api.Op
	n := func(below int) uint64 { return uint64(r.Intn(below)) }
	for i := range count {
		op := api.Op{Kind: api.OpKind(n(12)), Key: n(6), Value: n(3), Old: n(3), Lo: n(4), Hi: n(9)}
		op.Ref = api.Ref{Set: true, Index: r.Intn(i + 2)}
		for range r.Intn(6) {
			op.Keys = append(op.Keys, n(6))
		}
		l = append(l, op)
	}
	return l
}

// withHandles are operations with their handles in the place of Refs, as a client alone has them.
func withHandles(client []api.Op, told []api.Answer) []api.Op {
	l := slices.Clone(client)
	for i := range l {
		l[i].Handle = 0
		if at := l[i].Ref.Index; at < i {
			l[i].Handle = told[at].Handle
		}
		l[i].Ref = api.Ref{}
	}
	return l
}

// P26.3 (E8): one client alone, whatever the workers, is told what the model tells, all operations, but for errors of memory, stamps and slots.
func TestOneClientAlone(t *testing.T) {
	for seed := range int64(80) {
		r := rand.New(rand.NewSource(seed))
		clients := [][]api.Op{alone(r, 120)}
		c := config()
		switch seed % 4 {
		case 1:
			c.Cells = 200
		case 2:
			c.Slots = 1
		case 3:
			c.Stamps = 5
		}
		for _, workers := range []int{1, 2, 9} {
			l, errno := serve.Run(c, workers, clients)
			if errno != api.OK || len(l) != 1 || len(l[0]) != 120 {
				t.Fatal(errno, l)
			}
			m, _ := model.New(c.Multi)
			for i, op := range withHandles(clients[0], l[0]) {
				a := l[0][i]
				if a.Errno == api.ErrMemory && c.Cells > 200 || a.Errno == api.ErrStamp && c.Stamps > 5 || a.Errno == api.ErrStale {
					t.Fatalf("%+v: %+v", op, a)
				}
				if !m.Take(op, a) {
					t.Fatalf("seed %d: %+v may not tell %+v", seed, op, a)
				}
			}
		}
	}
}

// P26.1, P26.3 (E8): all change one key, with values that are put once: each is found at most once, and all but one that is there in the end.
func TestClientsTogether(t *testing.T) {
	const all, each = 8, 200
	c := config()
	c.Cells = 1 << 18
	var clients [][]api.Op
	for i := range all {
		var l []api.Op
		for k := range each {
			l = append(l, api.Op{Kind: api.Put, Key: 7, Value: uint64(1 + i*each + k)})
		}
		clients = append(clients, l)
	}
	mixed := false
	for round := range 10 {
		for _, w := range ways() {
			l, errno := w.run(c, 1+round, clients)
			if errno != api.OK {
				t.Fatal(w.name, errno)
			}
			found := map[uint64]int{}
			nothing := 0
			for i, told := range l {
				for _, a := range told {
					if a.Errno != api.OK || a.Found && (a.Value < 1 || a.Value > all*each) {
						t.Fatal(w.name, a)
					}
					found[a.Value]++
					if !a.Found {
						nothing++
					}
					mixed = mixed || a.Found && int(a.Value-1)/each != i
				}
			}
			for value, n := range found {
				if n != 1 {
					t.Fatal(w.name, value, n)
				}
			}
			if nothing != 1 || len(found) != all*each {
				t.Fatal(w.name, nothing, len(found))
			}
		}
	}
	if !mixed {
		t.Error("no client has found what another one put")
	}
}

// P26.1, P26.4: of each number of operations: as many as that are done, of each client the first ones.
func TestUntil(t *testing.T) {
	c := config()
	c.Cells = 1 << 16
	for seed := range int64(20) {
		clients := clientsApart(seed, 1+int(seed%6), 12)
		all := 0
		for _, ops := range clients {
			all += len(ops)
		}
		mosts := []int{math.MinInt, math.MinInt + 1, -1, all + 1, all + 1000, math.MaxInt}
		for most := range all + 1 {
			mosts = append(mosts, most)
		}
		for _, most := range mosts {
			l, errno := serve.Until(c, 1+int(seed%3), clients, most)
			if errno != api.OK || len(l) != len(clients) {
				t.Fatal(errno, len(l))
			}
			n := 0
			for i, told := range l {
				if len(told) > len(clients[i]) {
					t.Fatal(len(told), len(clients[i]))
				}
				n += len(told)
			}
			if n != min(max(most, 0), all) {
				t.Fatal(n, "of", all, "were done, not", most)
			}
			checkApart(t, clients, l)
		}
	}
}

// P26.2: how many rows, and goroutines, may be.
func TestRowLimits(t *testing.T) {
	for _, count := range []int{0, 1, api.MaxFree, api.MaxFree + 1, 1000} {
		rows := slices.Repeat([][]uint64{{5}}, count)
		l, errno := serve.Merge(rows)
		if count > api.MaxFree {
			if errno != api.ErrLong || len(l) != 0 {
				t.Error(count, l, errno)
			}
			continue
		}
		if errno != api.OK || !slices.Equal(l, slices.Repeat([]uint64{5}, count)) {
			t.Error(count, l, errno)
		}
	}
	if l, errno := serve.Merge(make([][]uint64, api.MaxFree+1)); errno != api.ErrLong || len(l) != 0 {
		t.Error(l, errno)
	}
	if l, errno := serve.Merge([][]uint64{nil, {}, nil}); errno != api.OK || len(l) != 0 {
		t.Error(l, errno)
	}
	for _, count := range []int{math.MinInt, -1, 0, 1, api.MaxFree, api.MaxFree + 1, math.MaxInt} {
		for _, row := range [][]uint64{nil, {}, {7}} {
			l, errno := serve.Split(row, count)
			if count < 1 || count > api.MaxFree {
				if errno != api.ErrRange || len(l) != 0 {
					t.Error(count, l, errno)
				}
				continue
			}
			if errno != api.OK || len(l) != count || !slices.Equal(slices.Concat(l...), row) {
				t.Error(count, l, errno)
			}
		}
	}
}

// P26.5 (E8): each row is there in its own order, and nothing else; rows get between one another.
func TestMerge(t *testing.T) {
	mixed := 0
	for round := 0; round < 200 || round < 5000 && mixed == 0; round++ {
		r := rand.New(rand.NewSource(int64(round)))
		var rows [][]uint64
		for range r.Intn(12) {
			var row []uint64
			for range r.Intn(200) {
				row = append(row, uint64(r.Intn(4)))
			}
			rows = append(rows, row)
		}
		// Each number tells whose it is.
		for i, row := range rows {
			for k := range row {
				row[k] = row[k]<<8 | uint64(i)
			}
		}
		l, errno := serve.Merge(rows)
		if errno != api.OK {
			t.Fatal(errno)
		}
		got := make([][]uint64, len(rows))
		for k, number := range l {
			i := number & 255
			if i >= uint64(len(rows)) {
				t.Fatal(number)
			}
			got[i] = append(got[i], number)
			if k > 0 && l[k-1]&255 > i {
				mixed++
			}
		}
		for i, row := range rows {
			if !slices.Equal(got[i], row) {
				t.Fatal(got[i], row)
			}
		}
	}
	if manyCores() && mixed == 0 {
		t.Error("no number of a row stands behind one of a later row, ever")
	}
}

// P26.5 (E8): what each got rises in the order of the row, and all of it is the row; more than one get something.
func TestSplit(t *testing.T) {
	shared := 0
	for round := 0; round < 200 || round < 5000 && shared == 0; round++ {
		var row []uint64
		for i := range round * 5 {
			row = append(row, uint64(i*i))
		}
		count := 1 + round%9
		l, errno := serve.Split(row, count)
		if errno != api.OK || len(l) != count {
			t.Fatal(errno, len(l))
		}
		had := 0
		for _, got := range l {
			if !slices.IsSorted(got) {
				t.Fatal(got)
			}
			if len(got) > 0 {
				had++
			}
		}
		all := slices.Concat(l...)
		slices.Sort(all)
		if !slices.Equal(all, row) {
			t.Fatal(all, row)
		}
		if had > 1 {
			shared++
		}
	}
	if manyCores() && shared == 0 {
		t.Error("one of them got the whole row, ever")
	}
	// Numbers that stand there twice come out twice; what does not rise by itself keeps its order.
	row := slices.Repeat([]uint64{9, 3, 3, math.MaxUint64, 0}, 20)
	l, _ := serve.Split(row, 1)
	if !slices.Equal(l[0], row) {
		t.Error(l)
	}
	all, want := slices.Concat(first(serve.Split(row, 5))...), slices.Clone(row)
	slices.Sort(all)
	slices.Sort(want)
	if !slices.Equal(all, want) {
		t.Error(all)
	}
}

func first(l [][]uint64, _ api.Errno) [][]uint64 {
	return l
}

// P7: calls of the package at one time, from many goroutines.
func TestCallsAtOneTime(t *testing.T) {
	clients := clientsApart(5, 4, 40)
	told := make([][][]api.Answer, 8)
	crew.Together(len(told), func(i int) {
		w := ways()[i%len(ways())]
		told[i], _ = w.run(config(), 2, clients)
	})
	for _, l := range told {
		checkApart(t, clients, l)
		if len(l) != len(clients) {
			t.Error(len(l))
		}
	}
}
