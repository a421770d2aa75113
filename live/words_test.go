package live_test

import (
	"reflect"
	"slices"
	"testing"

	"shutter/api"
	"shutter/hist"
	"shutter/lin"
	"shutter/live"
	"shutter/model"
	"shutter/script"
)

func config() api.Config {
	return api.Config{Cells: 4000, Slots: 2, Stamps: 100, Multi: 4}
}

// ops are operations, each by its text.
func ops(t *testing.T, texts ...string) []api.Op {
	t.Helper()
	var l []api.Op
	for _, text := range texts {
		op, errno := script.ParseOp(text)
		if errno != api.OK {
			t.Fatal(text, errno)
		}
		l = append(l, op)
	}
	return l
}

// way is one of the ways in which goroutines do threads, all to their ends.
type way struct {
	name string
	run  func(c api.Config, threads [][]api.Op) ([]api.Did, []api.Pair, api.Errno)
}

func ways() []way {
	return []way{
		{"Run", live.Run},
		{"Rounds", live.Rounds},
		{"Cleaned", func(c api.Config, threads [][]api.Op) ([]api.Did, []api.Pair, api.Errno) {
			return live.Cleaned(c, threads, 2)
		}},
		{"Cleaned by none", func(c api.Config, threads [][]api.Op) ([]api.Did, []api.Pair, api.Errno) {
			return live.Cleaned(c, threads, 0)
		}},
		{"Crash of none", func(c api.Config, threads [][]api.Op) ([]api.Did, []api.Pair, api.Errno) {
			return live.Crash(c, threads, []int{-1, 1 << 40})
		}},
	}
}

// checkDids checks, of what threads were told, all that does not hang on what they did: spans, tickets, operations, forms of answers (P22.1, the beginning of P22.2).
func checkDids(t *testing.T, threads [][]api.Op, l []api.Did) {
	t.Helper()
	var spans []api.Span
	var tickets []int
	known := map[api.Ref]api.Did{}
	for _, d := range l {
		s := d.Span
		spans = append(spans, s)
		tickets = append(tickets, s.From)
		if s.To != -1 {
			tickets = append(tickets, s.To)
		}
		known[api.Ref{Set: true, Thread: s.Thread, Index: s.Index}] = d
	}
	if errno := hist.Right(spans); errno != api.OK || len(known) != len(l) {
		t.Fatalf("%d %d %+v", errno, len(known), spans)
	}
	if !slices.IsSortedFunc(spans, func(a, b api.Span) int { return a.From - b.From }) {
		t.Fatalf("not by first tickets: %+v", spans)
	}
	slices.Sort(tickets)
	for i, ticket := range tickets {
		if ticket != i {
			t.Fatalf("tickets: %d", tickets)
		}
	}
	for _, d := range l {
		checkOp(t, threads, known, d)
		checkForm(t, d)
	}
}

// checkOp checks that an operation is the one that was handed in, its Handle in the place of a Ref.
func checkOp(t *testing.T, threads [][]api.Op, known map[api.Ref]api.Did, d api.Did) {
	t.Helper()
	want := threads[d.Span.Thread][d.Span.Index]
	if ref := want.Ref; ref.Set {
		named, begun := known[ref]
		told := uint64(0)
		if begun && named.Span.To >= 0 {
			told = named.Answer.Handle
		}
		want.Handle = told
		switch {
		case hist.Ahead(d.Span, named.Span):
			want.Handle = 0
		case !hist.Ahead(named.Span, d.Span) && d.Op.Handle == 0:
			// It returns about then: both may be.
			want.Handle = 0
		}
	}
	want.Ref = api.Ref{}
	got := d.Op
	if !slices.Equal(got.Keys, want.Keys) {
		t.Fatalf("%+v", d)
	}
	got.Keys, want.Keys = nil, nil
	if !reflect.DeepEqual(got, want) {
		t.Fatalf("%+v, but %+v", d, want)
	}
}

// checkForm checks that an answer has nothing that the document's table does not name (P2).
func checkForm(t *testing.T, d api.Did) {
	t.Helper()
	a, want := d.Answer, api.Answer{Errno: d.Answer.Errno}
	if d.Span.To >= 0 && a.Errno == api.OK {
		switch d.Op.Kind {
		case api.Get, api.Put, api.Delete:
			want.Found = a.Found
		case api.Swap:
			want.Found, want.Done = a.Found, a.Done && a.Found
		case api.Snapshot:
			want.Handle = a.Handle
		case api.MultiGet, api.Range:
			want.Pairs = a.Pairs
		case api.Count, api.Collect:
			want.Count = a.Count
		}
		if want.Found {
			want.Value = a.Value
		}
	}
	if d.Span.To < 0 {
		want = api.Answer{}
	}
	if !reflect.DeepEqual(a, want) {
		t.Fatalf("%+v", d)
	}
}

// checkAll checks that each operation stands there once, and has returned.
func checkAll(t *testing.T, threads [][]api.Op, l []api.Did) {
	t.Helper()
	count := 0
	for _, ops := range threads {
		count += len(ops)
	}
	if len(l) != count {
		t.Fatalf("%d of %d", len(l), count)
	}
	for _, d := range l {
		if d.Span.To < 0 {
			t.Fatalf("pending: %+v", d)
		}
	}
}

// withEnd is a history with a Snapshot at its end, behind all that has returned, and a Range of it that tells what is there: an order that shows it shows the history, and leaves that.
func withEnd(l []api.Did, content []api.Pair) []api.Did {
	const thread, handle = -7, 1 << 63
	last := 3 * len(l)
	return append(slices.Clone(l),
		api.Did{
			Span:   api.Span{Thread: thread, From: last, To: last + 1},
			Op:     api.Op{Kind: api.Snapshot},
			Answer: api.Answer{Handle: handle},
		},
		api.Did{
			Span:   api.Span{Thread: thread, Index: 1, From: last + 2, To: last + 3},
			Op:     api.Op{Kind: api.Range, Handle: handle, Hi: 1<<64 - 1},
			Answer: api.Answer{Pairs: content},
		})
}

// mostOps is how many operations a history may have that checkShown takes.
const mostOps = api.MaxFind - 2

// checkShown checks that some order shows a history, and leaves what is there (P22.2).
func checkShown(t *testing.T, c api.Config, l []api.Did, content []api.Pair) {
	t.Helper()
	if _, errno := lin.Find(withEnd(l, content), c.Multi); errno != api.OK {
		t.Fatalf("no order (%d) shows, and leaves %v\n%+v", errno, content, l)
	}
}

// The checks themselves: a history that no order shows, and one that leaves something else.
func TestCheckShownTellsApart(t *testing.T) {
	l := []api.Did{
		{Span: api.Span{From: 0, To: 2}, Op: api.Op{Kind: api.Put, Key: 7, Value: 1}},
		{Span: api.Span{Thread: 1, From: 1, To: 3}, Op: api.Op{Kind: api.Put, Key: 7, Value: 2}, Answer: api.Answer{Found: true, Value: 1}},
	}
	for value, want := range map[uint64]api.Errno{1: api.ErrNone, 2: api.OK} {
		if _, errno := lin.Find(withEnd(l, []api.Pair{{Key: 7, Value: value}}), 4); errno != want {
			t.Error(value, errno)
		}
	}
	l[1].Span.To = -1
	for value, want := range map[uint64]api.Errno{1: api.OK, 2: api.OK, 3: api.ErrNone} {
		if _, errno := lin.Find(withEnd(l, []api.Pair{{Key: 7, Value: value}}), 4); errno != want {
			t.Error(value, errno)
		}
	}
}

// mapsOf are what the operations of one thread leave, one behind the other, the empty map first.
func mapsOf(c api.Config, l []api.Did) [][]api.Pair {
	m, _ := model.New(c.Multi)
	maps := [][]api.Pair{nil}
	for _, d := range l {
		m.Take(d.Op, d.Answer)
		maps = append(maps, m.Content())
	}
	return maps
}
