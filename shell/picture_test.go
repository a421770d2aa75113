package shell_test

import (
	"encoding/hex"
	"math"
	"strconv"
	"strings"
	"testing"

	"shutter/api"
	"shutter/dump"
)

// hexOf is a dump as a line has it.
func hexOf(l ...api.Pair) string {
	b, errno := dump.Encode(l)
	if errno != api.OK {
		panic(errno)
	}
	return hex.EncodeToString(b)
}

func pair(key, value uint64) api.Pair {
	return api.Pair{Key: key, Value: value}
}

// P28.1: what a handle holds, as bytes.
func TestDump(t *testing.T) {
	check(t,
		said{"new a 2000 2 100 4", "ok"},
		said{"dump a 1", "error 33"},
		said{"dump a 0", "error 33"},
		said{"trace a", "4"}, // the slot of the handle 1 was looked at
		said{"do a snapshot", "handle 1"},
		said{"dump a 1", hexOf()},
		said{"do a put 18446744073709551615 200", "none"},
		said{"do a put 0 171", "none"},
		said{"do a snapshot", "handle 2"},
		said{"dump a 1", hexOf()},
		said{"dump a 2", hexOf(pair(0, 171), pair(math.MaxUint64, 200))},
		said{"do a release 1", "ok"},
		said{"dump a 1", "error 33"},
		said{"dump a 65537", "error 33"},
		said{"pending a", "none"},
	)
}

// P28.1: what is other in the second one.
func TestDiff(t *testing.T) {
	check(t,
		said{"new a 20000 4 100 4", "ok"},
		said{"do a snapshot", "handle 1"},
		said{"do a put 7 1", "none"},
		said{"do a put 8 2", "none"},
		said{"do a put 300 0", "none"},
		said{"do a snapshot", "handle 2"},
		said{"do a put 8 3", "found 2"},
		said{"do a delete 7", "found 1"},
		said{"do a put 9 4", "none"},
		said{"do a snapshot", "handle 3"},
		said{"diff a 1 1", "diff"},
		said{"diff a 3 3", "diff"},
		said{"diff a 1 2", "diff 7+1 8+2 300+0"},
		said{"diff a 2 1", "diff 7-1 8-2 300-0"},
		said{"diff a 2 3", "diff 7-1 8:2>3 9+4"},
		said{"diff a 3 2", "diff 7+1 8:3>2 9-4"},
		said{"diff a 4 1", "error 33"},
		said{"diff a 1 4", "error 33"},
	)
}

// P28.1: the second handle is asked only if the first one holds.
func TestDiffAsks(t *testing.T) {
	check(t,
		said{"new a 2000 2 100 4", "ok"},
		said{"trace a", "3"},
		said{"diff a 1 2", "error 33"},
		said{"trace a", "4"},
		said{"do a snapshot", "handle 1"},
		said{"trace a", "11"},
		said{"diff a 2 1", "error 33"},
		said{"trace a", "12"},
		said{"diff a 1 2", "error 33"},
		said{"trace a", strconv.Itoa(12 + 66 + 1)},
	)
}

// P28.1: what bytes say is put into a store.
func TestRestore(t *testing.T) {
	dumped := hexOf(pair(7, 1), pair(8, 2), pair(math.MaxUint64, 0))
	check(t,
		said{"new a 2000 2 100 4", "ok"},
		said{"do a put 7 9", "none"},
		said{"do a put 5 5", "none"},
		said{"restore a " + hexOf(), "0"},
		said{"content a", "pairs 5:5 7:9"},
		said{"restore a " + dumped, "3"},
		said{"content a", "pairs 5:5 7:1 8:2 18446744073709551615:0"},
		said{"restore a " + dumped, "3"},
		said{"new b 2000 2 100 4", "ok"},
		said{"restore b " + dumped, "3"},
		said{"do b snapshot", "handle 1"},
		said{"dump b 1", dumped},
	)
}

func TestRestoreErrors(t *testing.T) {
	dumped := hexOf(pair(7, 1))
	check(t,
		said{"new a 2000 2 100 4", "ok"},
		said{"restore a", "word"},
		said{"restore a " + strings.ToUpper(dumped), "word"},
		said{"restore a " + dumped[1:], "word"},
		said{"restore a 0", "word"},
		said{"restore a 0g", "word"},
		said{"restore a g0", "word"},
		said{"restore a 0x00", "word"},
		said{"restore a 53 48", "word"},
		said{"restore a 00", "error 271"},
		said{"restore a 53", "error 270"},
		said{"restore a " + dumped[:len(dumped)-2], "error 270"},
		said{"restore a " + dumped + "00", "error 272"},
		said{"restore a " + dumped[:len(dumped)-2] + "d3", "error 271"},
		said{"trace a", "3"},
		said{"content a", "pairs"},
	)
	// There is room for two keys: the third one has an error, and the fourth one is not done.
	four := []api.Pair{pair(1, 1), pair(2, 2), pair(3, 3), pair(4, 4)}
	check(t,
		said{"new a 128 50 100 4", "ok"},
		said{"restore a " + hexOf(four...), "error 30"},
		said{"content a", "pairs 1:1 2:2"},
		said{"do a get 1", "found 1"},
		said{"do a snapshot", "handle 1"},
		said{"dump a 1", hexOf(four[:2]...)},
	)
	check(t,
		said{"new a 128 50 100 4", "ok"},
		said{"restore a " + hexOf(four[:2]...), "2"},
		said{"trace a", "19"},
		said{"restore a " + hexOf(four[2:]...), "error 30"},
		said{"trace a", "23"},
		said{"new b 128 50 100 4", "ok"},
		said{"restore b " + hexOf(four[:2]...), "2"},
		said{"do b put 3 3", "errno 30"},
		said{"trace b", "23"}, // so one of the two was done, and no more
	)
}
