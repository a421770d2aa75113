package dump_test

import (
	"bytes"
	"encoding/binary"
	"hash/fnv"
	"math"
	"reflect"
	"slices"
	"testing"

	"shutter/api"
	"shutter/dump"
)

// pairs are keys and values in turn.
func pairs(l ...uint64) []api.Pair {
	var all []api.Pair
	for i := 0; i < len(l); i += 2 {
		all = append(all, api.Pair{Key: l[i], Value: l[i+1]})
	}
	return all
}

// withSum is bytes with their sum behind them.
func withSum(b ...byte) []byte {
	h := fnv.New32a()
	h.Write(b)
	return binary.LittleEndian.AppendUint32(slices.Clone(b), h.Sum32())
}

// body is the bytes of a dump, without the sum, that has this behind its mark.
func body(b ...byte) []byte {
	return append([]byte{0x53, 0x48, 0x55, 0x31}, b...)
}

// whole is a dump that has this behind its mark.
func whole(b ...byte) []byte {
	return withSum(body(b...)...)
}

// naiveBytes are what Encode must tell of right pairs.
func naiveBytes(l []api.Pair) []byte {
	b := binary.AppendUvarint([]byte("SHU1"), uint64(len(l)))
	for i, p := range l {
		key := p.Key
		if i > 0 {
			key -= l[i-1].Key
		}
		b = binary.AppendUvarint(b, key)
		b = binary.AppendUvarint(b, p.Value)
	}
	return withSum(b...)
}

// someRight are pairs that are right, with numbers at the edges of how many bytes they take.
func someRight() [][]api.Pair {
	var all []uint64
	for bit := range 64 {
		all = append(all, uint64(1)<<bit-1, uint64(1)<<bit)
	}
	all = append(all, math.MaxUint64)
	slices.Sort(all)
	all = slices.Compact(all)
	var edges []api.Pair
	for i, key := range all {
		edges = append(edges, api.Pair{Key: key, Value: all[len(all)-1-i]})
	}
	var many []api.Pair
	for i := range uint64(300) {
		many = append(many, api.Pair{Key: i * i, Value: i % 5})
	}
	return [][]api.Pair{
		nil,
		{},
		pairs(0, 0),
		pairs(7, 1),
		pairs(0, 0, 1, 0),
		pairs(math.MaxUint64, math.MaxUint64),
		pairs(0, 1, math.MaxUint64, 2),
		pairs(7, 1, 8, 2, 300, 128, 1<<40, 127),
		edges,
		many,
	}
}

// P27.1: the bytes.
func TestEncode(t *testing.T) {
	if b, errno := dump.Encode(nil); errno != api.OK || !bytes.Equal(b, []byte{0x53, 0x48, 0x55, 0x31, 0, b[5], b[6], b[7], b[8]}) || len(b) != 9 {
		t.Errorf("none: % x, %d", b, errno)
	}
	if b, errno := dump.Encode(pairs(7, 1)); errno != api.OK || !bytes.Equal(b, []byte{0x53, 0x48, 0x55, 0x31, 1, 7, 1, 0x27, 0xc5, 0xf0, 0xd2}) {
		t.Errorf("7 1: % x, %d", b, errno)
	}
	for _, l := range someRight() {
		if b, errno := dump.Encode(l); errno != api.OK || !bytes.Equal(b, naiveBytes(l)) {
			t.Errorf("%v: % x, %d, not % x", l, b, errno, naiveBytes(l))
		}
	}
}

func wrongPairs() [][]api.Pair {
	return [][]api.Pair{
		pairs(7, 1, 7, 1),
		pairs(7, 1, 7, 2),
		pairs(8, 1, 7, 1),
		pairs(0, 1, 0, 2),
		pairs(1, 1, 2, 1, 3, 1, 3, 1),
		pairs(1, 1, 3, 1, 2, 1, 4, 1),
		pairs(math.MaxUint64, 0, 0, 0),
	}
}

func TestEncodeOfWrongPairs(t *testing.T) {
	for _, l := range wrongPairs() {
		if b, errno := dump.Encode(l); errno != api.ErrForm || len(b) != 0 {
			t.Errorf("%v: % x, %d", l, b, errno)
		}
	}
}

// tens are bytes of a number, each of which says that another one comes.
func tens(n int) []byte {
	return bytes.Repeat([]byte{0x80}, n)
}

func join(l ...[]byte) []byte {
	return bytes.Join(l, nil)
}

// P27.1, P27.3 (E10): what Encode writes is read.
func TestDecode(t *testing.T) {
	for _, l := range someRight() {
		got, errno, at := dump.Decode(naiveBytes(l))
		if errno != api.OK || at != 0 || !slices.Equal(got, l) {
			t.Errorf("%v: %v, %d, %d", l, got, errno, at)
		}
	}
}

// P27.1: each error, and where it is.
func TestDecodeFaults(t *testing.T) {
	nine := bytes.Repeat([]byte{0xff}, 9)
	great := append(slices.Clone(nine), 1) // 2^64 - 1
	for _, c := range []struct {
		name  string
		bytes []byte
		errno api.Errno
		at    int
	}{
		{"nothing", nil, api.ErrShort, 0},
		{"a part of the mark", []byte("SH"), api.ErrShort, 2},
		{"the mark alone", []byte("SHU1"), api.ErrShort, 4},
		{"another first byte", []byte("sHU1"), api.ErrBytes, 0},
		{"another third byte, the last one", []byte("SHX"), api.ErrBytes, 2},
		{"another fourth byte", []byte("SHU2\x00"), api.ErrBytes, 3},
		{"two other bytes", []byte("SxUy"), api.ErrBytes, 1},
		{"a count that goes on", body(0x81), api.ErrShort, 5},
		{"a count that ends with 0", whole(0x81, 0x00), api.ErrBytes, 5},
		{"a count of 0 in two bytes", whole(0x80, 0x00), api.ErrBytes, 5},
		{"a count of 0 in three bytes", whole(0x80, 0x80, 0x00), api.ErrBytes, 6},
		{"a count whose tenth is 2", body(join(nine, []byte{2})...), api.ErrBytes, 13},
		{"a count whose tenth goes on", body(join(nine, []byte{0x81, 0x01})...), api.ErrBytes, 13},
		{"a count whose tenth is 0", body(join(nine, []byte{0})...), api.ErrBytes, 13},
		{"a count of nine bytes that goes on", body(nine...), api.ErrShort, 13},
		{"the greatest count, and no pair", body(great...), api.ErrShort, 14},
		{"the greatest count, and one pair", body(join(great, []byte{1, 1})...), api.ErrShort, 16},
		{"no first key", body(1), api.ErrShort, 5},
		{"no first value", body(1, 7), api.ErrShort, 6},
		{"a first key that goes on", body(1, 0x87), api.ErrShort, 6},
		{"a first key that ends with 0", whole(1, 0x87, 0x00, 1), api.ErrBytes, 6},
		{"a first value that goes on", body(1, 7, 0xff), api.ErrShort, 7},
		{"a first value that ends with 0", whole(1, 7, 0xff, 0x00), api.ErrBytes, 7},
		{"a first key above all", body(join([]byte{1}, tens(9), []byte{2, 1})...), api.ErrBytes, 14},
		{"a value above all", body(join([]byte{1, 7}, tens(9), []byte{3})...), api.ErrBytes, 15},
		{"the same key again", whole(2, 7, 1, 0, 1), api.ErrBytes, 7},
		{"the same key again, and no value", body(2, 7, 1, 0), api.ErrBytes, 7},
		{"the same key again, in two bytes", whole(2, 7, 1, 0x80, 0x00, 1), api.ErrBytes, 8},
		{"a second key above all", body(join([]byte{2, 1, 1}, great, []byte{1})...), api.ErrBytes, 7},
		{"a second key above all, and no value", body(join([]byte{2, 1, 1}, great)...), api.ErrBytes, 7},
		{"a second key above all, by one", body(join([]byte{2}, great, []byte{1, 1, 1})...), api.ErrBytes, 16},
		{"a second key that goes on", body(join([]byte{2, 1, 1}, nine)...), api.ErrShort, 16},
		{"no sum", body(0), api.ErrShort, 5},
		{"a sum that is not whole", whole(0)[:8], api.ErrShort, 8},
		{"a sum that is not whole, and another one", body(0, 1, 2, 3), api.ErrShort, 8},
		{"another sum", body(0, 1, 2, 3, 4), api.ErrBytes, 5},
		{"another last byte of the sum", flipped(whole(1, 7, 1), 10), api.ErrBytes, 7},
		{"another sum, and more", body(0, 1, 2, 3, 4, 5), api.ErrBytes, 5},
		{"a byte more", append(whole(0), 0), api.ErrMore, 9},
		{"a dump behind a dump", join(whole(1, 7, 1), whole(0)), api.ErrMore, 11},
	} {
		l, errno, at := dump.Decode(c.bytes)
		if errno != c.errno || at != c.at || len(l) != 0 {
			t.Errorf("%s: %v, %d, %d, not %d, %d", c.name, l, errno, at, c.errno, c.at)
		}
	}
}

// flipped is bytes of which one is another one.
func flipped(b []byte, at int) []byte {
	b = slices.Clone(b)
	b[at] ^= 0x40
	return b
}

func gone(key, old uint64) dump.Change {
	return dump.Change{Key: key, Had: true, Old: old}
}

func came(key, now uint64) dump.Change {
	return dump.Change{Key: key, Has: true, New: now}
}

func other(key, old, now uint64) dump.Change {
	return dump.Change{Key: key, Had: true, Has: true, Old: old, New: now}
}

// P27.2: what is other.
func TestDiff(t *testing.T) {
	for _, c := range []struct {
		a, b []api.Pair
		want []dump.Change
	}{
		{nil, nil, nil},
		{pairs(7, 1), pairs(7, 1), nil},
		{pairs(7, 1, 8, 2), pairs(8, 3, 9, 4), []dump.Change{gone(7, 1), other(8, 2, 3), came(9, 4)}},
		{nil, pairs(0, 0, 5, 1), []dump.Change{came(0, 0), came(5, 1)}},
		{pairs(0, 0, 5, 1), nil, []dump.Change{gone(0, 0), gone(5, 1)}},
		{pairs(7, 0), pairs(7, 1), []dump.Change{other(7, 0, 1)}},
		{pairs(7, 1), pairs(7, 0), []dump.Change{other(7, 1, 0)}},
		{pairs(1, 1, 2, 2, 3, 3), pairs(2, 2), []dump.Change{gone(1, 1), gone(3, 3)}},
		{pairs(2, 2), pairs(1, 1, 2, 2, 3, 3), []dump.Change{came(1, 1), came(3, 3)}},
		{pairs(math.MaxUint64, 1), pairs(0, 1), []dump.Change{came(0, 1), gone(math.MaxUint64, 1)}},
	} {
		if l, errno := dump.Diff(c.a, c.b); errno != api.OK || !slices.Equal(l, c.want) {
			t.Errorf("%v to %v: %v, %d", c.a, c.b, l, errno)
		}
	}
}

// P27.2: the pairs then.
func TestPatch(t *testing.T) {
	for _, c := range []struct {
		a    []api.Pair
		l    []dump.Change
		want []api.Pair
	}{
		{nil, nil, nil},
		{pairs(7, 1), nil, pairs(7, 1)},
		{nil, []dump.Change{came(7, 0)}, pairs(7, 0)},
		{pairs(7, 0), []dump.Change{gone(7, 0)}, nil},
		{pairs(7, 1, 8, 2), []dump.Change{gone(7, 1), other(8, 2, 3), came(9, 4)}, pairs(8, 3, 9, 4)},
		{pairs(5, 5, 7, 1, 9, 9), []dump.Change{came(6, 6), other(7, 1, 0), came(math.MaxUint64, 1)}, pairs(5, 5, 6, 6, 7, 0, 9, 9, math.MaxUint64, 1)},
	} {
		if l, errno := dump.Patch(c.a, c.l); errno != api.OK || !slices.Equal(l, c.want) {
			t.Errorf("%v by %v: %v, %d", c.a, c.l, l, errno)
		}
	}
}

func wrongChanges() [][]dump.Change {
	return [][]dump.Change{
		{{Key: 7}},
		{{Key: 7, Old: 1}},
		{{Key: 7, New: 1}},
		{{Key: 7, Old: 1, New: 2}},
		{{Key: 7, Had: true, Old: 1, New: 1}},
		{{Key: 7, Had: true, Old: 1, New: 2}},
		{{Key: 7, Has: true, Old: 1, New: 1}},
		{{Key: 7, Has: true, Old: 2, New: 1}},
		{other(7, 1, 1)},
		{other(7, 0, 0)},
		{gone(7, 1), came(7, 2)},
		{gone(7, 1), gone(7, 1)},
		{gone(8, 1), came(7, 2)},
		{gone(7, 1), came(8, 2), {Key: 9}},
	}
}

// P27.2: errors of the four that take rows.
func TestWrongRows(t *testing.T) {
	right := pairs(7, 1)
	for _, wrong := range wrongPairs() {
		for _, two := range [][2][]api.Pair{{wrong, right}, {right, wrong}, {wrong, wrong}, {wrong, nil}, {nil, wrong}} {
			if l, errno := dump.Diff(two[0], two[1]); errno != api.ErrForm || len(l) != 0 {
				t.Errorf("Diff of %v: %v, %d", two, l, errno)
			}
			if l, errno := dump.Sync(two[0], two[1]); errno != api.ErrForm || len(l) != 0 {
				t.Errorf("Sync of %v: %v, %d", two, l, errno)
			}
		}
		if l, errno := dump.Load(wrong); errno != api.ErrForm || len(l) != 0 {
			t.Errorf("Load of %v: %v, %d", wrong, l, errno)
		}
		// The change does not fit either: that the pairs are wrong is named first.
		for _, changes := range [][]dump.Change{nil, {gone(7, 100)}, {came(5, 1)}} {
			if l, errno := dump.Patch(wrong, changes); errno != api.ErrForm || len(l) != 0 {
				t.Errorf("Patch of %v by %v: %v, %d", wrong, changes, l, errno)
			}
		}
	}
	for _, wrong := range wrongChanges() {
		for _, a := range [][]api.Pair{nil, right, pairs(7, 2), pairs(8, 1)} {
			if l, errno := dump.Patch(a, wrong); errno != api.ErrForm || len(l) != 0 {
				t.Errorf("Patch of %v by %v: %v, %d", a, wrong, l, errno)
			}
		}
	}
}

func TestPatchThatDoesNotFit(t *testing.T) {
	for _, c := range []struct {
		a []api.Pair
		l []dump.Change
	}{
		{nil, []dump.Change{gone(7, 1)}},
		{nil, []dump.Change{gone(7, 0)}},
		{nil, []dump.Change{other(7, 0, 1)}},
		{pairs(7, 2), []dump.Change{gone(7, 1)}},
		{pairs(7, 2), []dump.Change{other(7, 1, 2)}},
		{pairs(7, 2), []dump.Change{came(7, 2)}},
		{pairs(7, 0), []dump.Change{came(7, 1)}},
		{pairs(7, 2), []dump.Change{gone(7, 1), other(8, 2, 3), came(9, 4)}},
		{pairs(5, 1, 7, 2), []dump.Change{gone(5, 1), came(6, 1), gone(8, 1)}},
	} {
		if l, errno := dump.Patch(c.a, c.l); errno != api.ErrNone || len(l) != 0 {
			t.Errorf("%v by %v: %v, %d", c.a, c.l, l, errno)
		}
	}
}

// P27.2: the operations.
func TestOperations(t *testing.T) {
	put := func(key, value uint64) api.Op { return api.Op{Kind: api.Put, Key: key, Value: value} }
	remove := func(key uint64) api.Op { return api.Op{Kind: api.Delete, Key: key} }
	l, errno := dump.Load(pairs(0, 0, 7, 1, math.MaxUint64, 9))
	if want := []api.Op{put(0, 0), put(7, 1), put(math.MaxUint64, 9)}; errno != api.OK || !reflect.DeepEqual(l, want) {
		t.Errorf("Load: %v, %d", l, errno)
	}
	l, errno = dump.Sync(pairs(3, 3, 7, 1, 8, 2), pairs(3, 3, 8, 3, 9, 0))
	if want := []api.Op{remove(7), put(8, 3), put(9, 0)}; errno != api.OK || !reflect.DeepEqual(l, want) {
		t.Errorf("Sync: %v, %d", l, errno)
	}
	if l, errno := dump.Load(nil); errno != api.OK || len(l) != 0 {
		t.Errorf("Load of none: %v, %d", l, errno)
	}
	if l, errno := dump.Sync(pairs(7, 1), pairs(7, 1)); errno != api.OK || len(l) != 0 {
		t.Errorf("Sync of the same: %v, %d", l, errno)
	}
}
