package script_test

import (
	"math"
	"reflect"
	"testing"

	"shutter/api"
	"shutter/mix"
	"shutter/script"
)

// drawnByWords is the script that a seed stands for, as the chapter says it.
func drawnByWords(seed uint64, c api.Config, threads, calls, picks int) api.Script {
	i := uint64(0)
	below := func(n int) int {
		i++
		return int(mix.Mix(seed+i*0x9e3779b97f4a7c15) % uint64(n))
	}
	key := func() uint64 { return mix.Back(uint64(below(4))) }
	value := func() uint64 { return uint64(below(4)) }
	s := api.Script{Config: c}
	for range threads {
		var ops []api.Op
		for range calls {
			op := api.Op{Kind: api.OpKind(below(10) + 1)}
			switch op.Kind {
			case api.Get, api.Delete, api.Put, api.Swap:
				op.Key = key()
			case api.Release, api.MultiGet, api.Range, api.Count:
				op.Ref.Set = true
				op.Ref.Thread = below(threads)
				op.Ref.Index = below(calls)
			}
			if op.Kind == api.Swap {
				op.Old = value()
			}
			if op.Kind == api.Swap || op.Kind == api.Put {
				op.Value = value()
			}
			if op.Kind == api.MultiGet {
				n := 4
				if c.Multi+1 < n {
					n = c.Multi + 1
				}
				for range below(n) {
					op.Keys = append(op.Keys, key())
				}
			}
			if op.Kind == api.Range || op.Kind == api.Count {
				op.Hi = math.MaxUint64
			}
			ops = append(ops, op)
		}
		s.Threads = append(s.Threads, ops)
	}
	for range picks {
		s.Picks = append(s.Picks, below(threads))
	}
	return s
}

// P17.7, P17.9: what a seed stands for, the same each time, and a right script.
func TestDraw(t *testing.T) {
	kinds, keys := map[api.OpKind]int{}, map[int]int{}
	for seed := range uint64(400) {
		c := config
		c.Multi = 1 + int(seed%6)
		threads, calls, picks := 1+int(seed%7), int(seed%11), int(seed%97)
		if seed%5 == 0 {
			seed *= 0x123456789abcdef1
		}
		s, errno := script.Draw(seed, c, threads, calls, picks)
		if errno != api.OK || !sameScript(s, drawnByWords(seed, c, threads, calls, picks)) {
			t.Fatalf("seed %d: %+v, %d", seed, s, errno)
		}
		if errno := script.Right(s); errno != api.OK {
			t.Fatalf("seed %d: %+v is not right (%d)", seed, s, errno)
		}
		again, _ := script.Draw(seed, c, threads, calls, picks)
		if !reflect.DeepEqual(s, again) {
			t.Fatalf("seed %d: %+v, and then %+v", seed, s, again)
		}
		for _, ops := range s.Threads {
			for _, op := range ops {
				if kinds[op.Kind]++; op.Kind == api.MultiGet {
					keys[len(op.Keys)]++
				}
			}
		}
	}
	for kind := api.Get; kind <= api.Collect; kind++ {
		if kinds[kind] < 400 {
			t.Error("too few of the kind", kind, kinds)
		}
	}
	if len(keys) != 4 || keys[3] < 50 {
		t.Error("keys of MultiGets:", keys)
	}
}

// P17.7: the edges of what is drawn.
func TestDrawEdges(t *testing.T) {
	small := api.Config{Cells: 128, Slots: 63, Stamps: 1, Multi: 1}
	for i, c := range []struct {
		config                api.Config
		threads, calls, picks int
		errno                 api.Errno
	}{
		{config, 1, 0, 0, api.OK},
		{config, 1, 1, 1, api.OK},
		{config, api.MaxThreads, api.MaxDraw, 100, api.OK},
		{config, 2, 3, api.MaxPicks, api.OK},
		{config, 0, 1, 1, api.ErrRange},
		{config, -1, 1, 1, api.ErrRange},
		{config, math.MinInt, 1, 1, api.ErrRange},
		{config, api.MaxThreads + 1, 1, 1, api.ErrRange},
		{config, 1, -1, 1, api.ErrRange},
		{config, 1, api.MaxDraw + 1, 1, api.ErrRange},
		{config, 1, 1, -1, api.ErrRange},
		{config, 1, 1, api.MaxPicks + 1, api.ErrRange},
		{config, 1, math.MaxInt, 1, api.ErrRange},
		{api.Config{}, 1, 1, 1, api.ErrRange},
		{small, 1, 1, 1, api.ErrMemory},
		{small, 0, -1, -1, api.ErrMemory},
	} {
		s, errno := script.Draw(5, c.config, c.threads, c.calls, c.picks)
		if errno != c.errno {
			t.Errorf("%d: %d, not %d", i, errno, c.errno)
		}
		want := api.Script{}
		if c.errno == api.OK {
			want = drawnByWords(5, c.config, c.threads, c.calls, c.picks)
		}
		if !sameScript(s, want) {
			t.Errorf("%d is not what the seed stands for", i)
		}
	}
}
