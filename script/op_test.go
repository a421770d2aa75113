package script_test

import (
	"math"
	"math/rand"
	"reflect"
	"regexp"
	"slices"
	"strconv"
	"strings"
	"testing"

	"shutter/api"
	"shutter/script"
)

const greatest = math.MaxUint64

func refTo(thread, index int) api.Ref { return api.Ref{Set: true, Thread: thread, Index: index} }

// kinds are all kinds of operations that there are.
var kinds = []api.OpKind{api.Get, api.Put, api.Delete, api.Swap, api.Snapshot, api.Release, api.MultiGet, api.Range, api.Count, api.Collect}

// texts are operations with their texts.
var texts = []struct {
	text string
	op   api.Op
}{
	{"get 7", api.Op{Kind: api.Get, Key: 7}},
	{"get 0", api.Op{Kind: api.Get}},
	{"get 18446744073709551615", api.Op{Kind: api.Get, Key: greatest}},
	{"put 7 1", api.Op{Kind: api.Put, Key: 7, Value: 1}},
	{"put 0 0", api.Op{Kind: api.Put}},
	{"delete 8", api.Op{Kind: api.Delete, Key: 8}},
	{"swap 7 1 5", api.Op{Kind: api.Swap, Key: 7, Old: 1, Value: 5}},
	{"snapshot", api.Op{Kind: api.Snapshot}},
	{"release 3", api.Op{Kind: api.Release, Handle: 3}},
	{"release 0", api.Op{Kind: api.Release}},
	{"release @0.2", api.Op{Kind: api.Release, Ref: refTo(0, 2)}},
	{"release @0.0", api.Op{Kind: api.Release, Ref: refTo(0, 0)}},
	{"release @9223372036854775807.9223372036854775807", api.Op{Kind: api.Release, Ref: refTo(math.MaxInt, math.MaxInt)}},
	{"multiget 1 7 8", api.Op{Kind: api.MultiGet, Handle: 1, Keys: []uint64{7, 8}}},
	{"multiget 1", api.Op{Kind: api.MultiGet, Handle: 1}},
	{"multiget @1.0 8 7 8", api.Op{Kind: api.MultiGet, Ref: refTo(1, 0), Keys: []uint64{8, 7, 8}}},
	{"range @1.0 0 100", api.Op{Kind: api.Range, Ref: refTo(1, 0), Hi: 100}},
	{"range 65537 5 3", api.Op{Kind: api.Range, Handle: 65537, Lo: 5, Hi: 3}},
	{"count @63.4095 2 18446744073709551615", api.Op{Kind: api.Count, Ref: refTo(63, 4095), Lo: 2, Hi: greatest}},
	{"count 18446744073709551615 0 0", api.Op{Kind: api.Count, Handle: greatest}},
	{"collect", api.Op{Kind: api.Collect}},
}

// sameOp tells whether two operations are the same; an empty list is as nil.
func sameOp(a, b api.Op) bool {
	same := slices.Equal(a.Keys, b.Keys)
	a.Keys, b.Keys = nil, nil
	return same && reflect.DeepEqual(a, b)
}

// P17.1, P17.4: each operation has a text, and comes back from it.
func TestTextsOfOps(t *testing.T) {
	for _, c := range texts {
		if text, errno := script.PrintOp(c.op); text != c.text || errno != api.OK {
			t.Errorf("%+v is %q (%d), not %q", c.op, text, errno, c.text)
		}
		if op, errno := script.ParseOp(c.text); !sameOp(op, c.op) || errno != api.OK {
			t.Errorf("%q is %+v (%d)", c.text, op, errno)
		}
	}
}

// P17.1: kinds that are none, too many keys, fields that the kind does not name, Refs that may not be.
func TestOpsWithoutText(t *testing.T) {
	long := make([]uint64, api.MaxMulti+1)
	for _, c := range []struct {
		op    api.Op
		errno api.Errno
	}{
		{api.Op{}, api.ErrOp},
		{api.Op{Kind: api.Collect + 1}, api.ErrOp},
		{api.Op{Kind: 255, Key: 1, Keys: long}, api.ErrOp},
		{api.Op{Kind: api.MultiGet, Keys: long}, api.ErrLong},
		{api.Op{Kind: api.MultiGet, Keys: long, Key: 1, Ref: refTo(-1, 0)}, api.ErrLong},
		{api.Op{Kind: api.Get, Keys: long}, api.ErrForm},
		{api.Op{Kind: api.Range, Keys: []uint64{0}}, api.ErrForm},
		{api.Op{Kind: api.Release, Ref: api.Ref{Thread: 1}}, api.ErrForm},
		{api.Op{Kind: api.Release, Ref: api.Ref{Index: 1}}, api.ErrForm},
		{api.Op{Kind: api.Release, Ref: refTo(-1, 0)}, api.ErrForm},
		{api.Op{Kind: api.Release, Ref: refTo(0, -1)}, api.ErrForm},
		{api.Op{Kind: api.Release, Ref: refTo(0, 0), Handle: 1}, api.ErrForm},
		{api.Op{Kind: api.Count, Ref: refTo(0, 0), Handle: 1}, api.ErrForm},
		{api.Op{Kind: api.Snapshot, Ref: refTo(0, 0)}, api.ErrForm},
		{api.Op{Kind: api.Get, Ref: api.Ref{Thread: 1}}, api.ErrForm},
		{api.Op{Kind: api.Put, Ref: api.Ref{Index: -1}}, api.ErrForm},
	} {
		if text, errno := script.PrintOp(c.op); text != "" || errno != c.errno {
			t.Errorf("%+v: %q, %d, not %d", c.op, text, errno, c.errno)
		}
	}
	op := api.Op{Kind: api.MultiGet, Keys: long[1:]}
	text, errno := script.PrintOp(op)
	if back, e := script.ParseOp(text); errno != api.OK || e != api.OK || !sameOp(back, op) {
		t.Error("as many keys as may be:", errno, e)
	}
	if _, errno := script.ParseOp(text + " 0"); errno != api.ErrForm {
		t.Error("one key more:", errno)
	}
}

// P17.1: of each kind, just the fields that it names may be other than zero.
func TestFieldsOfKinds(t *testing.T) {
	set := map[string]func(o *api.Op){
		"Key":    func(o *api.Op) { o.Key = 1 },
		"Value":  func(o *api.Op) { o.Value = 1 },
		"Old":    func(o *api.Op) { o.Old = 1 },
		"Handle": func(o *api.Op) { o.Handle = 1 },
		"Ref":    func(o *api.Op) { o.Ref = refTo(0, 0) },
		"Keys":   func(o *api.Op) { o.Keys = []uint64{0} },
		"Lo":     func(o *api.Op) { o.Lo = 1 },
		"Hi":     func(o *api.Op) { o.Hi = 1 },
	}
	named := map[api.OpKind]string{
		api.Get: "Key", api.Put: "Key Value", api.Delete: "Key", api.Swap: "Key Old Value",
		api.Release: "Handle Ref", api.MultiGet: "Handle Ref Keys", api.Range: "Handle Ref Lo Hi", api.Count: "Handle Ref Lo Hi",
	}
	for _, kind := range kinds {
		for field, change := range set {
			op := api.Op{Kind: kind}
			change(&op)
			want := api.ErrForm
			if slices.Contains(strings.Fields(named[kind]), field) {
				want = api.OK
			}
			if _, errno := script.PrintOp(op); errno != want {
				t.Errorf("kind %d with %s: %d", kind, field, errno)
			}
			s := api.Script{Config: config, Threads: [][]api.Op{{op}}}
			if errno := script.Right(s); errno != want {
				t.Errorf("a script of kind %d with %s: %d", kind, field, errno)
			}
		}
		if _, errno := script.PrintOp(api.Op{Kind: kind, Keys: []uint64{}}); errno != api.OK {
			t.Errorf("kind %d with an empty list: %d", kind, errno)
		}
	}
}

// P17.1: texts that are no operation's.
func TestNoTextsOfOps(t *testing.T) {
	for _, text := range []string{
		"", " ", "get", "get ", "get  7", " get 7", "get 7 ", "get 7\n", "get 7 8", "Get 7", "GET 7", "got 7", "get\t7", "get 7\r",
		"get 07", "get +7", "get -7", "get -0", "get 00", "get 7_0", "get 0x7", "get 7.0", "get 1e1", "get 18446744073709551616", "get @0.0", "get ７",
		"put 7", "put 7 1 2", "put 7 @0.0", "delete", "delete 7 1", "swap 7 1", "swap 7 1 5 9",
		"snapshot ", "snapshot 1", "snapshot @0.0", "collect 0", "collect ",
		"release", "release ", "release 1 2", "release @", "release @0", "release @.", "release @0.", "release @.0", "release @0.0.0", "release @0.0 1",
		"release @-1.0", "release @0.-1", "release @00.0", "release @0.01", "release @+0.0", "release @9223372036854775808.0", "release @0.9223372036854775808",
		"release @0,0", "release 0.0", "release @ 0.0", "release @0 .0", "release @@0.0", "release -1", "release 01",
		"multiget", "multiget ", "multiget @0.0 ", "multiget 1  7", "multiget 1 07", "multiget 1 @0.0", "multiget 1 -1",
		"range", "range 1", "range 1 0", "range 1 0 1 2", "range @0.0 0", "range 1 0 -1", "count 1 2", "count @1.0 2 3 4",
		"config 2000 2 100 4", "thread", "picks 0", "ok", "none",
	} {
		if op, errno := script.ParseOp(text); errno != api.ErrForm || !reflect.DeepEqual(op, api.Op{}) {
			t.Errorf("%q is %+v, %d", text, op, errno)
		}
	}
}

// opLine is the form of an operation's text, as far as a form can say it.
var opLine = regexp.MustCompile(`^(((get|delete) N|put N N|swap N N N|snapshot|collect|release H|multiget H( N)*|(range|count) H N N))$`)

// isOpText tells whether a text is an operation's, by its form, and by its numbers one for one.
func isOpText(text string) bool {
	words := strings.Split(text, " ")
	for i, word := range words[1:] {
		thread, index, isRef := strings.Cut(strings.TrimPrefix(word, "@"), ".")
		switch {
		case isRef && word[0] == '@' && isNumber(thread, 63) && isNumber(index, 63):
			words[i+1] = "H"
		case isNumber(word, 64):
			words[i+1] = "N"
		default:
			return false
		}
	}
	form := strings.Join(words, " ")
	if len(words) > 1 && slices.Contains([]string{"release", "multiget", "range", "count"}, words[0]) {
		form = words[0] + " H" + strings.TrimPrefix(form, words[0]+" "+words[1])
	}
	return opLine.MatchString(form) && (words[0] != "multiget" || len(words) <= 2+api.MaxMulti)
}

var digits = regexp.MustCompile(`^(0|[1-9][0-9]*)$`)

// isNumber tells whether a text is a number of so many bits, without sign.
func isNumber(text string, bits int) bool {
	_, err := strconv.ParseUint(text, 10, bits)
	return digits.MatchString(text) && err == nil
}

// drawOp is a right operation.
func drawOp(r *rand.Rand) api.Op {
	number := func() uint64 { return r.Uint64() >> r.Intn(64) }
	op := api.Op{Kind: kinds[r.Intn(len(kinds))]}
	switch op.Kind {
	case api.Swap:
		op.Old = number()
		fallthrough
	case api.Put:
		op.Value = number()
		fallthrough
	case api.Get, api.Delete:
		op.Key = number()
	case api.MultiGet:
		for range r.Intn(5) {
			op.Keys = append(op.Keys, number())
		}
	case api.Range, api.Count:
		op.Lo, op.Hi = number(), number()
	}
	if op.Kind >= api.Release && op.Kind <= api.Count {
		if r.Intn(2) == 0 {
			op.Handle = number()
		} else {
			op.Ref = refTo(int(number()>>1), r.Intn(9))
		}
	}
	return op
}

// spoil changes a text at a place or two.
func spoil(r *rand.Rand, text string) string {
	const pieces = "0123456789 @.-+gx\n"
	for range 1 + r.Intn(2) {
		at := r.Intn(len(text) + 1)
		end := min(at+r.Intn(3), len(text))
		piece := ""
		if r.Intn(3) > 0 {
			i := r.Intn(len(pieces))
			piece = pieces[i : i+1]
		}
		text = text[:at] + piece + text[end:]
	}
	return text
}

// P17.1, P17.4 (E10): there and back, of drawn operations; a text that was spoilt is one's just if it has the form of one.
func TestOpsThereAndBack(t *testing.T) {
	taken, refused := 0, 0
	r := rand.New(rand.NewSource(1))
	for range 20000 {
		op := drawOp(r)
		text, errno := script.PrintOp(op)
		if errno != api.OK || !isOpText(text) {
			t.Fatalf("%+v is %q, %d", op, text, errno)
		}
		if back, errno := script.ParseOp(text); errno != api.OK || !sameOp(back, op) {
			t.Fatalf("%q is %+v, %d, not %+v", text, back, errno, op)
		}
		text = spoil(r, text)
		back, errno := script.ParseOp(text)
		if (errno == api.OK) != isOpText(text) {
			t.Fatalf("%q: %d", text, errno)
		}
		if errno != api.OK {
			refused++
			continue
		}
		taken++
		if again, errno := script.PrintOp(back); errno != api.OK || again != text {
			t.Fatalf("%q is %+v, which is %q", text, back, again)
		}
	}
	if taken < 2000 || refused < 2000 {
		t.Error("too few:", taken, refused)
	}
}

// P17.1: what each operation tells.
func TestPrintAnswer(t *testing.T) {
	full := api.Answer{Found: true, Value: 5, Done: true, Handle: 65537, Pairs: []api.Pair{{Key: 7, Value: 1}, {Key: 8, Value: greatest}}, Count: 3}
	for _, c := range []struct {
		text   string
		answer api.Answer
		kinds  []api.OpKind
	}{
		{"found 5", full, []api.OpKind{api.Get, api.Put, api.Delete}},
		{"none", api.Answer{Value: 5, Done: true}, []api.OpKind{api.Get, api.Put, api.Delete}},
		{"none", api.Answer{}, []api.OpKind{api.Get, api.Put, api.Delete, api.Swap}},
		{"found 0", api.Answer{Found: true}, []api.OpKind{api.Get, api.Put, api.Delete, api.Swap}},
		{"done 5", full, []api.OpKind{api.Swap}},
		{"done 5", api.Answer{Done: true, Value: 5}, []api.OpKind{api.Swap}},
		{"found 5", api.Answer{Found: true, Value: 5}, []api.OpKind{api.Swap}},
		{"handle 65537", full, []api.OpKind{api.Snapshot}},
		{"handle 0", api.Answer{}, []api.OpKind{api.Snapshot}},
		{"ok", full, []api.OpKind{api.Release, 0, api.Collect + 1, 255}},
		{"pairs 7:1 8:18446744073709551615", full, []api.OpKind{api.MultiGet, api.Range}},
		{"pairs", api.Answer{Count: 3}, []api.OpKind{api.MultiGet, api.Range}},
		{"pairs", api.Answer{Pairs: []api.Pair{}}, []api.OpKind{api.MultiGet, api.Range}},
		{"count 3", full, []api.OpKind{api.Count, api.Collect}},
		{"count 0", api.Answer{}, []api.OpKind{api.Count, api.Collect}},
		{"errno 30", api.Answer{Errno: api.ErrMemory, Found: true, Done: true, Count: 3}, append([]api.OpKind{0, 11, 255}, kinds...)},
		{"errno 160", api.Answer{Errno: api.ErrOp}, append([]api.OpKind{0, 11, 255}, kinds...)},
		{"errno -1", api.Answer{Errno: -1}, []api.OpKind{api.Get, 0}},
	} {
		for _, kind := range c.kinds {
			if text := script.PrintAnswer(kind, c.answer); text != c.text {
				t.Errorf("%+v of the kind %d is %q, not %q", c.answer, kind, text, c.text)
			}
		}
	}
}
