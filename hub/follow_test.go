package hub_test

import (
	"slices"
	"strconv"
	"sync/atomic"
	"testing"

	"shutter/api"
	"shutter/crew"
	"shutter/hub"
	"shutter/store"
)

// P24.3 (E9): by many goroutines, two Opens of one name tell the same store, of two names unlike ones; Made is how many names have a store.
func TestOnce(t *testing.T) {
	const all, names = 16, 20
	for range 100 {
		h := hub.New(config())
		told := make([][names]*store.Store, all)
		crew.Together(all, func(i int) {
			stride := []int{1, 3, 7, 9}[i%4]
			for k := range names {
				n := (k*stride + i) % names // all of them, in an order of its own
				s, errno := h.Open(strconv.Itoa(n))
				if errno != api.OK {
					t.Error(errno)
				}
				told[i][n] = s
			}
		})
		for i := range told {
			for n := range names {
				if told[i][n] != told[0][n] {
					t.Fatal("two stores of one name")
				}
			}
		}
		if h.Made() != names || len(h.Names()) != names {
			t.Fatal(h.Made(), h.Names())
		}
		unlike := map[*store.Store]bool{}
		for n := range names {
			unlike[open(t, h, strconv.Itoa(n))] = true
		}
		if len(unlike) != names || h.Made() != names {
			t.Fatal(len(unlike), h.Made())
		}
	}
}

// P24.3: who is told a store is told one that is made: many ask for the one name at one time.
func TestOnceOfOne(t *testing.T) {
	c := config()
	c.Cells = 1 << 16 // takes a while
	for range 50 {
		h := hub.New(c)
		var wrong atomic.Int64
		stores := make([]*store.Store, 32)
		crew.Together(len(stores), func(i int) {
			s, errno := h.Open("a")
			if errno != api.OK || s == nil || s.Memory().Cells() != c.Cells || h.Made() != 1 {
				wrong.Add(1)
			}
			stores[i] = s
		})
		if wrong.Load() != 0 || len(slices.Compact(stores)) != 1 {
			t.Fatal(wrong.Load())
		}
	}
}

// P24.3, P24.1: who asks while others close the hub, or ask for more names than it takes, is told one of the two, and what was told stays.
func TestCloseAmidOpens(t *testing.T) {
	const all = 100
	for round := range 60 {
		h := hub.New(config())
		told := make([]api.Errno, all)
		crew.Together(all+1, func(i int) {
			if i < all {
				_, told[i] = h.Open("n" + strconv.Itoa(i))
			} else if round%2 == 0 {
				h.Close()
			}
		})
		had := 0
		for i, errno := range told {
			name := "n" + strconv.Itoa(i)
			_, has := slices.BinarySearch(h.Names(), name)
			switch {
			case errno == api.OK && has:
				had++
				open(t, h, name)
			case has, errno != api.ErrClosed && errno != api.ErrFull, errno == api.ErrClosed && round%2 == 1:
				t.Fatal(name, errno, has)
			}
		}
		if had != h.Made() || had != len(h.Names()) || had > api.MaxNames || round%2 == 1 && had != api.MaxNames {
			t.Fatal(had, h.Made())
		}
	}
}

// P24.4: what is put into a name's store is there when it is opened again, in that store alone.
func TestWhatIsPutStays(t *testing.T) {
	const all = 12
	h := hub.New(config())
	crew.Together(all, func(i int) {
		s, errno := h.Open("n" + strconv.Itoa(i/2)) // two have each of them
		if errno != api.OK {
			t.Error(errno)
			return
		}
		do(s, api.Op{Kind: api.Put, Key: uint64(i), Value: uint64(100 + i)})
	})
	open(t, h, "other")
	h.Close()
	for n := range all / 2 {
		k := uint64(2 * n)
		want := []api.Pair{{Key: k, Value: 100 + k}, {Key: k + 1, Value: 101 + k}}
		if got := open(t, h, "n"+strconv.Itoa(n)).Content(); !slices.Equal(got, want) {
			t.Error(n, got)
		}
	}
	if got := open(t, h, "other").Content(); len(got) != 0 {
		t.Error(got)
	}
}
