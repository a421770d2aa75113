package arena_test

import (
	"slices"
	"sync"
	"testing"

	"shutter/api"
	"shutter/arena"
)

const workers = 8

// together lets goroutines begin at one time, each with a view of its own, and waits for them.
func together(m *arena.Memory, work func(v *arena.View)) {
	var begin, end sync.WaitGroup
	begin.Add(1)
	for i := range workers {
		end.Go(func() {
			v := m.View(i)
			begin.Wait()
			work(v)
		})
	}
	begin.Done()
	end.Wait()
}

// P3.5: no Add is lost, and no two are told the same.
func TestLiveAdd(t *testing.T) {
	m := newMemory(t, 128, true)
	told := make([][]uint64, workers)
	together(m, func(v *arena.View) {
		for range 5000 {
			told[v.Thread()] = append(told[v.Thread()], v.Add(5, 1))
		}
	})
	all := slices.Concat(told...)
	slices.Sort(all)
	if m.Peek(5) != workers*5000 || !slices.Equal(all, numbers(workers*5000, 0)) {
		t.Error("the cell holds", m.Peek(5))
	}
}

// P3.5: of each value of a cell one Cas is done.
func TestLiveCas(t *testing.T) {
	m := newMemory(t, 128, true)
	done := make([]uint64, workers)
	together(m, func(v *arena.View) {
		for done[v.Thread()] < 2000 {
			old := v.Load(127)
			if v.Cas(127, old, old+1) {
				done[v.Thread()]++
			}
		}
	})
	if m.Peek(127) != workers*2000 {
		t.Error("the cell holds", m.Peek(127))
	}
}

// P3.5: a Load tells what was stored ahead of what it saw.
func TestLiveStoresAreSeenInOrder(t *testing.T) {
	m := newMemory(t, 128, true)
	wrong := make([]int, workers)
	together(m, func(v *arena.View) {
		if v.Thread() == 0 {
			for i := range uint64(20000) {
				v.Store(5, i)
				v.Store(6, i)
			}
			return
		}
		for range 20000 {
			later := v.Load(6)
			if v.Load(5) < later {
				wrong[v.Thread()]++
			}
		}
	})
	if !slices.Equal(wrong, make([]int, workers)) {
		t.Error("a later Store was seen ahead of an earlier one:", wrong)
	}
}

// P3.5, P3.7: records have no cell in common, and all cells are handed out.
func TestLiveAlloc(t *testing.T) {
	m := newMemory(t, 20000, true)
	records := make([][]uint64, workers)
	together(m, func(v *arena.View) {
		n := 1 + v.Thread()%3
		for {
			mark := uint64(v.Thread()+1)<<32 | uint64(len(records[v.Thread()]))
			addr := v.Alloc(slices.Repeat([]uint64{mark}, n))
			if addr == 0 {
				return
			}
			records[v.Thread()] = append(records[v.Thread()], addr)
		}
	})
	used := make([]bool, m.Cells())
	count := 0
	for thread, l := range records {
		for i, addr := range l {
			for at := addr; at < addr+uint64(1+thread%3); at++ {
				if at == 0 || used[at] || m.Peek(at) != uint64(thread+1)<<32|uint64(i) {
					t.Fatalf("cell %d of a record of thread %d holds %x", at, thread, m.Peek(at))
				}
				used[at] = true
				count++
			}
		}
	}
	if m.Left() != 0 || count != m.Cells()-1 {
		t.Error("handed out:", count, "left:", m.Left())
	}
}

// P3.5: an Alloc is done as one: who sees the first or the last of its cells handed out sees all of its values.
func TestLiveAllocIsDoneAsOne(t *testing.T) {
	const length = 4096
	m := newMemory(t, 1+200*length, true)
	wrong := make([]int, workers)
	together(m, func(v *arena.View) {
		if v.Thread() == 0 {
			for range 200 {
				v.Alloc(slices.Repeat([]uint64{7}, length))
			}
			return
		}
		for m.Left() > 0 {
			next := uint64(m.Cells() - m.Left())
			if next > 1 && (v.Load(next-1) != 7 || v.Load(next-length) != 7) {
				wrong[v.Thread()]++
			}
			if v.Load(next) == 7 && v.Load(next+length-1) != 7 {
				wrong[v.Thread()]++
			}
		}
	})
	if !slices.Equal(wrong, make([]int, workers)) {
		t.Error("half of a record was seen:", wrong)
	}
}

// P3.5: Adds to cells that are being handed out come ahead of the Alloc, or behind it, and none gets lost between.
func TestLiveAddsMeetAlloc(t *testing.T) {
	const cells = 3000
	m := newMemory(t, cells, true)
	behind := make([][]uint64, workers)
	together(m, func(v *arena.View) {
		if v.Thread() == 0 {
			for v.Alloc([]uint64{1000, 1000, 1000}) != 0 {
			}
			return
		}
		mine := make([]uint64, cells)
		for addr := range uint64(cells) {
			if v.Add(addr, 1) >= 1000 {
				mine[addr]++
			}
		}
		behind[v.Thread()] = mine
	})
	last := uint64(cells - 1 - (cells-1)%3)
	for addr := uint64(1); addr <= last; addr++ {
		want := uint64(1000)
		for _, mine := range behind[1:] {
			want += mine[addr]
		}
		if got := m.Peek(addr); got != want {
			t.Fatalf("cell %d holds %d, not %d", addr, got, want)
		}
	}
}

// P3.5: the ways of the five accesses together: a stack of records, that all push on and pop from.
func TestLiveStack(t *testing.T) {
	const top, each = 1, 400
	m := newMemory(t, 2+workers*each*2, true)
	if m.View(-1).Alloc([]uint64{0}) != top {
		t.Fatal("the top")
	}
	popped := make([][]uint64, workers)
	together(m, func(v *arena.View) {
		for i := range uint64(each) {
			push(v, top, uint64(v.Thread())*each+i)
			popped[v.Thread()] = append(popped[v.Thread()], pop(v, top))
		}
	})
	all := slices.Concat(popped...)
	slices.Sort(all)
	if !slices.Equal(all, numbers(workers*each, 0)) || m.Peek(top) != 0 {
		t.Error("what was pushed did not come out once each")
	}
}

func push(v *arena.View, top, value uint64) {
	record := v.Alloc([]uint64{value, 0})
	for {
		below := v.Load(top)
		v.Store(record+1, below)
		if v.Cas(top, below, record) {
			return
		}
	}
}

func pop(v *arena.View, top uint64) uint64 {
	for {
		record := v.Load(top)
		if v.Cas(top, record, v.Load(record+1)) {
			return v.Load(record)
		}
	}
}

// P3.2, P3.5: each view counts its own accesses.
func TestLiveAccesses(t *testing.T) {
	m := newMemory(t, api.MinCells, true)
	made := make([]int, workers)
	together(m, func(v *arena.View) {
		for range 100 * (v.Thread() + 1) {
			v.Add(1, 1)
		}
		made[v.Thread()] = v.Accesses()
	})
	for i, n := range made {
		if n != 100*(i+1) {
			t.Errorf("view %d: %d accesses", i, n)
		}
	}
}
