package dump_test

import (
	"bytes"
	"math"
	"math/rand"
	"slices"
	"testing"

	"shutter/api"
	"shutter/dump"
	"shutter/model"
	"shutter/step"
	"shutter/store"
)

// drawnNumber is one of any length in bytes, often a small one.
func drawnNumber(r *rand.Rand) uint64 {
	switch r.Intn(4) {
	case 0:
		return uint64(r.Intn(6))
	case 1:
		return math.MaxUint64 - uint64(r.Intn(6))
	}
	return r.Uint64() >> r.Intn(64)
}

// drawnPairs are right ones; of few keys, so that two rows have some in common, or of any.
func drawnPairs(r *rand.Rand, few bool) []api.Pair {
	held := map[uint64]uint64{}
	for range r.Intn(12) {
		key := drawnNumber(r)
		if few {
			key %= 8
		}
		held[key] = drawnNumber(r) % 3
		if !few {
			held[key] = drawnNumber(r)
		}
	}
	return sorted(held)
}

func sorted(held map[uint64]uint64) []api.Pair {
	var l []api.Pair
	for key, value := range held {
		l = append(l, api.Pair{Key: key, Value: value})
	}
	slices.SortFunc(l, func(a, b api.Pair) int {
		if a.Key < b.Key {
			return -1
		}
		return 1
	})
	return l
}

// P27.1, P27.3 (E10): there and back.
func TestThereAndBack(t *testing.T) {
	r := rand.New(rand.NewSource(1))
	for range 3000 {
		l := drawnPairs(r, false)
		b, errno := dump.Encode(l)
		if errno != api.OK || !bytes.Equal(b, naiveBytes(l)) {
			t.Fatalf("%v: % x, %d", l, b, errno)
		}
		if back, errno, at := dump.Decode(b); errno != api.OK || at != 0 || !slices.Equal(back, l) {
			t.Fatalf("%v: % x: %v, %d, %d", l, b, back, errno, at)
		}
	}
}

// P27.3 (E10): there is one way to write pairs: Encode of what Decode takes are the bytes. Bytes are drawn, or changed a little, and the sum is made right, so that it does not hide what stands ahead of it.
func TestOneWayToWrite(t *testing.T) {
	r := rand.New(rand.NewSource(2))
	taken, refused := 0, 0
	for range 60000 {
		b := naiveBytes(drawnPairs(r, r.Intn(2) == 0))
		b = b[:len(b)-4]
		for range r.Intn(3) {
			at := 4 + r.Intn(len(b)-4)
			switch r.Intn(4) {
			case 0:
				b[at] = byte(r.Intn(256))
			case 1:
				b[at] ^= 0x80
			case 2:
				b = slices.Insert(b, at, []byte{0, 1, 0x80, 0xff}[r.Intn(4)])
			case 3:
				b = append(b[:at:at], b[at+1:]...)
				if len(b) == 4 {
					b = append(b, 0)
				}
			}
		}
		b = withSum(b...)
		l, errno, at := dump.Decode(b)
		if errno != api.OK {
			refused++
			checkRefused(t, b, l, errno, at)
			continue
		}
		taken++
		if again, errno := dump.Encode(l); at != 0 || errno != api.OK || !bytes.Equal(again, b) {
			t.Fatalf("% x: %v, %d: % x, %d", b, l, at, again, errno)
		}
	}
	if taken < 1000 || refused < 1000 {
		t.Errorf("%d were taken, %d refused", taken, refused)
	}
}

// checkRefused checks that bytes that are refused are refused for what stands up to the place that is told, or for their end.
func checkRefused(t *testing.T, b []byte, l []api.Pair, errno api.Errno, at int) {
	t.Helper()
	if len(l) != 0 {
		t.Fatalf("% x: %d, but %v", b, errno, l)
	}
	switch errno {
	case api.ErrShort:
		if at != len(b) {
			t.Fatalf("% x: short at %d", b, at)
		}
	case api.ErrMore:
		if _, errno, _ := dump.Decode(b[:at]); errno != api.OK {
			t.Fatalf("% x: more at %d, but %d ahead of it", b, at, errno)
		}
	case api.ErrBytes:
		// What stands ahead of the place is a beginning: it is short alone.
		if _, errno, _ := dump.Decode(b[:at]); at >= len(b) || errno != api.ErrShort {
			t.Fatalf("% x: wrong at %d, but %d ahead of it", b, at, errno)
		}
	default:
		t.Fatalf("% x: %d at %d", b, errno, at)
	}
}

// P27.6: a byte is another one, or the end is lost.
func TestDamage(t *testing.T) {
	r := rand.New(rand.NewSource(3))
	rows := [][]api.Pair{nil, pairs(7, 1), pairs(0, 0, 1, 0, 2, 0), pairs(300, 128, math.MaxUint64, math.MaxUint64)}
	for range 30 {
		rows = append(rows, drawnPairs(r, false))
	}
	for _, l := range rows {
		b := naiveBytes(l)
		for at := range b {
			if got, errno, _ := dump.Decode(b[:at]); errno != api.ErrShort && (errno != api.OK || slices.Equal(got, l)) {
				t.Fatalf("%v, %d bytes: %v, %d", l, at, got, errno)
			}
			for other := range 256 {
				damaged := slices.Clone(b)
				damaged[at] = byte(other)
				if bytes.Equal(damaged, b) {
					continue
				}
				if got, errno, _ := dump.Decode(damaged); errno == api.OK && slices.Equal(got, l) {
					t.Fatalf("%v, byte %d is %d: taken as the same", l, at, other)
				}
			}
		}
	}
}

// naiveDiff is found by maps.
func naiveDiff(a, b []api.Pair) []dump.Change {
	old, now := map[uint64]uint64{}, map[uint64]uint64{}
	keys := map[uint64]uint64{}
	for _, p := range a {
		old[p.Key], keys[p.Key] = p.Value, 0
	}
	for _, p := range b {
		now[p.Key], keys[p.Key] = p.Value, 0
	}
	var l []dump.Change
	for _, k := range sorted(keys) {
		var c dump.Change
		c.Key = k.Key
		c.Old, c.Had = old[k.Key]
		c.New, c.Has = now[k.Key]
		if c.Had != c.Has || c.Old != c.New {
			l = append(l, c)
		}
	}
	return l
}

// turned is changes the other way round.
func turned(l []dump.Change) []dump.Change {
	var all []dump.Change
	for _, c := range l {
		all = append(all, dump.Change{Key: c.Key, Had: c.Has, Has: c.Had, Old: c.New, New: c.Old})
	}
	return all
}

// P27.2, P27.3, P27.5: differences of drawn rows.
func TestDifferences(t *testing.T) {
	r := rand.New(rand.NewSource(4))
	same := 0
	for range 5000 {
		a, b := drawnPairs(r, true), drawnPairs(r, true)
		if r.Intn(8) == 0 {
			b = slices.Clone(a)
		}
		l, errno := dump.Diff(a, b)
		if errno != api.OK || !slices.Equal(l, naiveDiff(a, b)) {
			t.Fatalf("%v to %v: %v, %d", a, b, l, errno)
		}
		if slices.Equal(a, b) != (len(l) == 0) {
			t.Fatalf("%v to %v: %v", a, b, l)
		}
		if len(l) == 0 {
			same++
		}
		if got, errno := dump.Patch(a, l); errno != api.OK || !slices.Equal(got, b) {
			t.Fatalf("%v by %v: %v, %d", a, l, got, errno)
		}
		if back, errno := dump.Diff(b, a); errno != api.OK || !slices.Equal(back, turned(l)) {
			t.Fatalf("%v to %v: %v, %d", b, a, back, errno)
		}
		// On another row the changes say what it has, or they are not taken.
		other := drawnPairs(r, true)
		got, errno := dump.Patch(other, l)
		if back, backErrno := dump.Diff(other, got); (errno == api.OK) != fitsAll(other, l) || errno == api.OK && (backErrno != api.OK || !slices.Equal(back, l)) || errno != api.OK && (errno != api.ErrNone || len(got) != 0) {
			t.Fatalf("%v by %v: %v, %d", other, l, got, errno)
		}
	}
	if same < 100 {
		t.Errorf("%d were the same", same)
	}
}

func fitsAll(a []api.Pair, l []dump.Change) bool {
	held := map[uint64]uint64{}
	for _, p := range a {
		held[p.Key] = p.Value
	}
	for _, c := range l {
		if value, had := held[c.Key]; had != c.Had || value != c.Old {
			return false
		}
	}
	return true
}

// P27.4: done on an empty store, and on one that has a: of the model, and of the store itself.
func TestOperationsLeadThere(t *testing.T) {
	r := rand.New(rand.NewSource(5))
	for range 300 {
		a, b := drawnPairs(r, true), drawnPairs(r, true)
		load, errno := dump.Load(a)
		if errno != api.OK {
			t.Fatal(errno)
		}
		sync, errno := dump.Sync(a, b)
		if errno != api.OK {
			t.Fatal(errno)
		}
		m, _ := model.New(4)
		s, _ := store.New(api.Config{Cells: 20000, Slots: 2, Stamps: 100, Multi: 4})
		for i, ops := range [][]api.Op{load, sync} {
			for _, op := range ops {
				m.Do(op, 0)
				step.Alone(s.Memory().View(0), s.Call(op), 10000)
			}
			want := [][]api.Pair{a, b}[i]
			if !slices.Equal(m.Content(), want) || !slices.Equal(s.Content(), want) {
				t.Fatalf("%v, %v: %v, %v by %v", a, b, m.Content(), s.Content(), ops)
			}
		}
	}
}

// P3: what is handed in stays, spare room too, and answers lie in nothing of it.
func TestWhatIsHandedInStays(t *testing.T) {
	spare := func(l []api.Pair) ([]api.Pair, []api.Pair) {
		all := append(slices.Clone(l), pairs(91, 91, 92, 92, 93, 93, 94, 94)...)
		return all[:len(l)], all
	}
	a, allOfA := spare(pairs(7, 1, 8, 2, 10, 5))
	b, allOfB := spare(pairs(8, 3, 9, 4, 10, 5))
	wasA, wasB := slices.Clone(allOfA), slices.Clone(allOfB)
	dumped, _ := dump.Encode(a)
	room := append(dumped, 1, 2, 3)
	wasRoom := slices.Clone(room)
	back, _, _ := dump.Decode(room[:len(dumped)])
	changes, _ := dump.Diff(a, b)
	allChanges := append(changes, gone(100, 1), gone(101, 1))
	wasChanges := slices.Clone(allChanges)
	patched, errno := dump.Patch(a, allChanges[:len(changes)])
	untouched, _ := dump.Patch(a, nil)
	if errno != api.OK || !slices.Equal(patched, b) {
		t.Fatal(patched, errno)
	}
	for _, l := range [][]api.Pair{back, patched, untouched} {
		l = l[:cap(l)]
		for i := range l {
			l[i] = api.Pair{Key: 1 << 60, Value: 1 << 60}
		}
	}
	if !slices.Equal(allOfA, wasA) || !slices.Equal(allOfB, wasB) || !bytes.Equal(room, wasRoom) || !slices.Equal(allChanges, wasChanges) {
		t.Error("something that was handed in has changed")
	}
}

// P1: nothing panics, whatever the bytes are.
func TestAnyBytes(t *testing.T) {
	r := rand.New(rand.NewSource(6))
	for range 20000 {
		b := make([]byte, r.Intn(40))
		r.Read(b)
		if r.Intn(2) == 0 {
			b = body(b...)
		}
		if r.Intn(2) == 0 {
			b = withSum(b...)
		}
		l, errno, at := dump.Decode(b)
		if errno != api.OK {
			checkRefused(t, b, l, errno, at)
		}
	}
}
