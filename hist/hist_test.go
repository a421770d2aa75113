package hist_test

import (
	"math"
	"slices"
	"testing"

	"shutter/api"
	"shutter/hist"
)

// call and back are events, in short.
func call(step, thread, index int) api.Event {
	return api.Event{Step: step, Thread: thread, Index: index}
}

func back(step, thread, index int) api.Event {
	return api.Event{Step: step, Thread: thread, Index: index, Return: true}
}

// span is a span, in short.
func span(thread, index, from, to int) api.Span {
	return api.Span{Thread: thread, Index: index, From: from, To: to}
}

// lists yields all lists of n elements of some.
func lists[T any](some []T, n int) func(func([]T) bool) {
	return func(yield func([]T) bool) {
		places := make([]int, n)
		for {
			l := make([]T, n)
			for i, p := range places {
				l[i] = some[p]
			}
			if !yield(l) {
				return
			}
			i := n - 1
			for ; i >= 0 && places[i] == len(some)-1; i-- {
				places[i] = 0
			}
			if i < 0 {
				return
			}
			places[i]++
		}
	}
}

// numbers are those from lo to hi.
func numbers(lo, hi int) []int {
	var l []int
	for n := lo; n <= hi; n++ {
		l = append(l, n)
	}
	return l
}

// spansOf are all spans of these threads, indexes and steps.
func spansOf(threads, indexes, froms, tos []int) []api.Span {
	var l []api.Span
	for _, thread := range threads {
		for _, index := range indexes {
			for _, from := range froms {
				for _, to := range tos {
					l = append(l, span(thread, index, from, to))
				}
			}
		}
	}
	return l
}

// rightEvents tells by the chapter's words, thread by thread and step by step, whether events are right.
func rightEvents(l []api.Event) bool {
	ofThread := map[int][]api.Event{}
	ofStep := map[int][]api.Event{}
	for i, e := range l {
		if e.Step < 0 || i > 0 && e.Step < l[i-1].Step {
			return false
		}
		ofThread[e.Thread] = append(ofThread[e.Thread], e)
		ofStep[e.Step] = append(ofStep[e.Step], e)
	}
	for _, own := range ofThread {
		for i, e := range own {
			if e.Return != (i%2 == 1) || e.Index != i/2 {
				return false
			}
		}
	}
	for _, at := range ofStep {
		if len(at) > 2 {
			return false
		}
		if len(at) == 2 && (at[0].Thread != at[1].Thread || at[0].Index != at[1].Index || at[0].Return || !at[1].Return) {
			return false
		}
	}
	return true
}

// spansByWords are the spans of right events: each call with the return that has its thread and its Index.
func spansByWords(l []api.Event) []api.Span {
	var spans []api.Span
	for _, e := range l {
		if e.Return {
			continue
		}
		s := span(e.Thread, e.Index, e.Step, -1)
		for _, r := range l {
			if r.Return && r.Thread == e.Thread && r.Index == e.Index {
				s.To = r.Step
			}
		}
		spans = append(spans, s)
	}
	return spans
}

// rightSpans tells by the chapter's words, pair by pair, whether spans are right.
func rightSpans(l []api.Span) bool {
	for i, s := range l {
		if s.From < 0 || s.To != -1 && s.To < s.From {
			return false
		}
		ahead := 0
		for _, r := range l[:i] {
			if r.Thread == s.Thread {
				ahead++
				if r.To == -1 || r.To >= s.From {
					return false
				}
			} else if r.From == s.From || r.From == s.To || r.To == s.From || r.To == s.To && s.To != -1 {
				return false
			}
		}
		if s.Index != ahead {
			return false
		}
	}
	return true
}

func aheadByWords(a, b api.Span) bool {
	return a.To >= 0 && a.To < b.From
}

// keepsByWords is Keeps, pair by pair.
func keepsByWords(l []api.Span, order []int) bool {
	for i, n := range order {
		if n < 0 || n >= len(l) || slices.Contains(order[:i], n) {
			return false
		}
		for _, m := range order[:i] {
			if aheadByWords(l[n], l[m]) {
				return false
			}
		}
	}
	for n, s := range l {
		if s.To >= 0 && !slices.Contains(order, n) {
			return false
		}
	}
	return true
}

// firstByWords is First, pair by pair.
func firstByWords(l []api.Span, left []bool) []int {
	isLeft := func(i int) bool { return i < len(left) && left[i] }
	var first []int
	for i := range l {
		ok := isLeft(i)
		for j := range l {
			ok = ok && !(j != i && isLeft(j) && aheadByWords(l[j], l[i]))
		}
		if ok {
			first = append(first, i)
		}
	}
	return first
}

// widthByWords is Width, step by step, up to a last step.
func widthByWords(l []api.Span, last int) int {
	width := 0
	for step := -3; step <= last; step++ {
		n := 0
		for _, s := range l {
			if s.From <= step && (s.To < 0 || step <= s.To) {
				n++
			}
		}
		width = max(width, n)
	}
	return width
}

// P5.1, chapter's example 1.
func TestSpansOfExample(t *testing.T) {
	l, errno := hist.Spans([]api.Event{call(0, 0, 0), call(1, 1, 0), back(2, 0, 0)})
	if errno != api.OK || !slices.Equal(l, []api.Span{span(0, 0, 0, 2), span(1, 0, 1, -1)}) {
		t.Fatal(l, errno)
	}
	if hist.Width(l) != 2 || hist.Ahead(l[0], l[1]) || hist.Ahead(l[1], l[0]) {
		t.Error("they overlap")
	}
}

// P5.1.
func TestSpansThatAreRight(t *testing.T) {
	cases := []struct {
		events []api.Event
		want   []api.Span
	}{
		{nil, nil},
		{[]api.Event{}, nil},
		{[]api.Event{call(0, 0, 0)}, []api.Span{span(0, 0, 0, -1)}},
		{[]api.Event{call(4, 0, 0), back(4, 0, 0)}, []api.Span{span(0, 0, 4, 4)}},
		{[]api.Event{call(0, 3, 0), back(0, 3, 0), call(1, 3, 1), back(1, 3, 1), call(2, 3, 2)},
			[]api.Span{span(3, 0, 0, 0), span(3, 1, 1, 1), span(3, 2, 2, -1)}},
		{[]api.Event{call(0, -5, 0), call(2, math.MaxInt, 0), back(3, -5, 0), call(5, -5, 1), call(6, math.MinInt, 0), back(7, math.MaxInt, 0)},
			[]api.Span{span(-5, 0, 0, 3), span(math.MaxInt, 0, 2, 7), span(-5, 1, 5, -1), span(math.MinInt, 0, 6, -1)}},
		{[]api.Event{call(math.MaxInt-1, 0, 0), call(math.MaxInt, 1, 0), back(math.MaxInt, 1, 0)},
			[]api.Span{span(0, 0, math.MaxInt-1, -1), span(1, 0, math.MaxInt, math.MaxInt)}},
	}
	for _, c := range cases {
		if l, errno := hist.Spans(c.events); errno != api.OK || !slices.Equal(l, c.want) {
			t.Errorf("Spans(%v): %v, %d, not %v", c.events, l, errno, c.want)
		}
	}
}

// P5.1, and P2 of the document's rules: zero beside an error.
func TestSpansThatAreNotRight(t *testing.T) {
	cases := map[string][]api.Event{
		"a step below 0":                 {call(-1, 0, 0)},
		"the least step":                 {call(math.MinInt, 0, 0)},
		"steps that fall":                {call(3, 0, 0), back(2, 0, 0)},
		"steps that fall, two threads":   {call(3, 0, 0), call(2, 1, 0)},
		"a return first":                 {back(0, 0, 0)},
		"a return without a call":        {call(0, 0, 0), back(1, 1, 0)},
		"two returns":                    {call(0, 0, 0), back(1, 0, 0), back(2, 0, 0)},
		"a return of the next":           {call(0, 0, 0), back(1, 0, 0), back(2, 0, 1)},
		"two calls":                      {call(0, 0, 0), call(1, 0, 1)},
		"the same call twice":            {call(0, 0, 0), call(1, 0, 0)},
		"a first call that is not 0":     {call(0, 0, 1)},
		"a first call below 0":           {call(0, 0, -1)},
		"a second call that is 0":        {call(0, 0, 0), back(1, 0, 0), call(2, 0, 0)},
		"a second call that is 2":        {call(0, 0, 0), back(1, 0, 0), call(2, 0, 2)},
		"another one's index":            {call(0, 0, 0), back(1, 0, 0), call(2, 1, 1)},
		"a return with another index":    {call(0, 0, 0), back(1, 0, 1)},
		"calls of one step":              {call(0, 0, 0), call(0, 1, 0)},
		"returns of one step":            {call(0, 0, 0), call(1, 1, 0), back(2, 0, 0), back(2, 1, 0)},
		"a return, and another's call":   {call(0, 0, 0), back(1, 0, 0), call(1, 1, 0)},
		"a call, and another's return":   {call(0, 0, 0), call(1, 1, 0), back(1, 0, 0)},
		"a return and the next call":     {call(0, 0, 0), back(1, 0, 0), call(1, 0, 1)},
		"three of one step":              {call(1, 0, 0), back(1, 0, 0), call(1, 0, 1)},
		"three of one step, two threads": {call(1, 0, 0), back(1, 0, 0), call(1, 1, 0)},
		"four of one step":               {call(1, 0, 0), back(1, 0, 0), call(1, 0, 1), back(1, 0, 1)},
	}
	for name, events := range cases {
		if l, errno := hist.Spans(events); errno != api.ErrHistory || len(l) != 0 {
			t.Errorf("%s: %v, %d", name, l, errno)
		}
	}
}

// P5.1, P5.8: all short lists of events, held against the chapter's words.
func TestSpansOfAllShortLists(t *testing.T) {
	var events []api.Event
	for step := -1; step <= 2; step++ {
		for _, thread := range []int{-7, 2} {
			for index := range 2 {
				events = append(events, call(step, thread, index), back(step, thread, index))
			}
		}
	}
	for n := range 4 {
		for l := range lists(events, n) {
			checkSpans(t, l)
		}
	}
}

// Longer ones, of events that come near to being right.
func TestSpansOfLongerLists(t *testing.T) {
	events := []api.Event{call(0, 0, 0), back(0, 0, 0), back(1, 0, 0), call(2, 0, 1), back(3, 0, 1), call(1, 1, 0), call(2, 1, 0), back(4, 1, 0)}
	for n := 4; n <= 5; n++ {
		for l := range lists(events, n) {
			checkSpans(t, l)
		}
	}
}

func checkSpans(t *testing.T, l []api.Event) {
	t.Helper()
	spans, errno := hist.Spans(l)
	if !rightEvents(l) {
		if errno != api.ErrHistory || len(spans) != 0 {
			t.Errorf("Spans(%v), which are not right: %v, %d", l, spans, errno)
		}
		return
	}
	if errno != api.OK || !slices.Equal(spans, spansByWords(l)) {
		t.Errorf("Spans(%v): %v, %d", l, spans, errno)
	}
	if len(l) > 0 && hist.Right(spans) != api.OK {
		t.Errorf("Spans(%v): %v, which is not right", l, spans)
	}
}

// P5.1.
func TestRight(t *testing.T) {
	right := [][]api.Span{
		nil,
		{},
		{span(0, 0, 0, 0)},
		{span(0, 0, 0, -1)},
		{span(math.MinInt, 0, math.MaxInt, math.MaxInt), span(math.MaxInt, 0, 0, math.MaxInt-1)},
		{span(0, 0, 0, 2), span(0, 1, 3, 3), span(0, 2, 4, -1)},
		{span(1, 0, 7, -1), span(0, 0, 2, -1), span(-1, 0, 5, -1)},
		{span(1, 0, 7, 9), span(0, 0, 2, 4), span(1, 1, 10, 11)},
	}
	for _, l := range right {
		if errno := hist.Right(l); errno != api.OK {
			t.Errorf("Right(%v): %d", l, errno)
		}
	}
	wrong := map[string][]api.Span{
		"a From below 0":                     {span(0, 0, -1, 2)},
		"a From below 0, pending":            {span(0, 0, -1, -1)},
		"the least From":                     {span(0, 0, math.MinInt, -1)},
		"a To below its From":                {span(0, 0, 3, 2)},
		"a To of -2":                         {span(0, 0, 3, -2)},
		"the least To":                       {span(0, 0, 3, math.MinInt)},
		"a first Index of 1":                 {span(0, 1, 0, 1)},
		"an Index below 0":                   {span(0, -1, 0, 1)},
		"an Index twice":                     {span(0, 0, 0, 1), span(0, 0, 2, 3)},
		"an Index left out":                  {span(0, 0, 0, 1), span(0, 2, 2, 3)},
		"Indexes turned round":               {span(0, 1, 2, 3), span(0, 0, 0, 1)},
		"Indexes of another thread":          {span(0, 0, 0, 1), span(1, 1, 2, 3)},
		"one behind a pending one":           {span(0, 0, 0, -1), span(0, 1, 2, 3)},
		"one that begins too early":          {span(0, 0, 0, 4), span(0, 1, 3, 5)},
		"one that begins at the return":      {span(0, 0, 0, 4), span(0, 1, 4, 5)},
		"a From in common":                   {span(0, 0, 0, 1), span(1, 0, 0, 2)},
		"a From in common, pending":          {span(0, 0, 0, -1), span(1, 0, 0, -1)},
		"a To in common":                     {span(0, 0, 0, 2), span(1, 0, 1, 2)},
		"a To that is the other's From":      {span(0, 0, 0, 2), span(1, 0, 2, 3)},
		"a From that is the other's To":      {span(0, 0, 2, 3), span(1, 0, 0, 2)},
		"one far away in common":             {span(0, 0, 0, 1), span(0, 1, 5, 6), span(2, 0, 2, 3), span(1, 0, 1, 7)},
		"the last step in common":            {span(0, 0, 0, math.MaxInt), span(1, 0, math.MaxInt, -1)},
		"one wrong thread behind right ones": {span(0, 0, 0, 1), span(1, 0, 2, 3), span(1, 1, 5, 4)},
	}
	for name, l := range wrong {
		if errno := hist.Right(l); errno != api.ErrHistory {
			t.Errorf("%s: %d", name, errno)
		}
	}
}

// P5.1: all short lists of spans, held against the chapter's words.
func TestRightOfAllShortLists(t *testing.T) {
	wide := spansOf([]int{-7, 2}, numbers(-1, 1), numbers(-1, 3), numbers(-2, 3))
	narrow := spansOf([]int{0, 1}, numbers(0, 2), numbers(0, 2), numbers(-1, 2))
	check := func(l []api.Span) {
		if got := hist.Right(l); got == api.OK != rightSpans(l) || got != api.OK && got != api.ErrHistory {
			t.Errorf("Right(%v): %d", l, got)
		}
	}
	for n := range 3 {
		for l := range lists(wide, n) {
			check(l)
		}
	}
	for l := range lists(narrow, 3) {
		check(l)
	}
}

// P5.2, chapter's example 2.
func TestExampleOfOrders(t *testing.T) {
	l := []api.Span{span(0, 0, 0, 2), span(1, 0, 3, 4)}
	if !hist.Ahead(l[0], l[1]) || hist.Ahead(l[1], l[0]) {
		t.Error("the first one is ahead")
	}
	if !hist.Keeps(l, []int{0, 1}) || hist.Keeps(l, []int{1, 0}) || hist.Keeps(l, []int{0}) {
		t.Error("Keeps")
	}
	if cut := hist.Cut(l, 3); !slices.Equal(cut, []api.Span{span(0, 0, 0, 2), span(1, 0, 3, -1)}) {
		t.Error(cut)
	}
}

// ends are spans at the ends of the numbers, right or not.
func ends() []api.Span {
	steps := []int{math.MinInt, math.MinInt + 1, -2, -1, 0, 1, math.MaxInt - 1, math.MaxInt}
	return spansOf([]int{0}, []int{0}, steps, steps)
}

// P5.2, P5.4.
func TestAhead(t *testing.T) {
	all := append(spansOf([]int{0, 1}, []int{0}, numbers(-2, 3), numbers(-2, 3)), ends()...)
	for _, a := range all {
		for _, b := range all {
			got := hist.Ahead(a, b)
			if got != aheadByWords(a, b) {
				t.Errorf("Ahead(%v, %v): %v", a, b, got)
			}
			if got && a.To >= a.From && b.To >= b.From && hist.Ahead(b, a) {
				t.Errorf("Ahead(%v, %v) is so both ways round", a, b)
			}
		}
	}
}

// P5.4.
func TestAheadGoesOn(t *testing.T) {
	all := spansOf([]int{0}, []int{0}, numbers(0, 5), numbers(0, 5))
	all = slices.DeleteFunc(all, func(s api.Span) bool { return s.To < s.From })
	for _, a := range all {
		for _, b := range all {
			for _, c := range all {
				if hist.Ahead(a, b) && hist.Ahead(b, c) && !hist.Ahead(a, c) {
					t.Errorf("%v is ahead of %v, that of %v, but not the first of the last", a, b, c)
				}
			}
		}
	}
}

// P5.2: of all short lists all orders, with numbers that are none, and numbers twice.
func TestKeeps(t *testing.T) {
	some := append(spansOf([]int{0}, []int{0}, numbers(-1, 2), numbers(-2, 2)), ends()[20:28]...)
	for n := range 3 {
		for l := range lists(some, n) {
			checkKeeps(t, l)
		}
	}
	narrow := spansOf([]int{0}, []int{0}, []int{0, 2}, []int{-1, 0, 1, 2})
	for l := range lists(narrow, 3) {
		checkKeeps(t, l)
	}
}

func checkKeeps(t *testing.T, l []api.Span) {
	t.Helper()
	for k := range len(l) + 2 {
		for order := range lists(numbers(-1, len(l)), k) {
			if got := hist.Keeps(l, order); got != keepsByWords(l, order) {
				t.Errorf("Keeps(%v, %v): %v", l, order, got)
			}
		}
	}
}

// P5.2: what the pairs of neighbours do not show, and numbers that are none.
func TestKeepsOfWrongOrders(t *testing.T) {
	l := []api.Span{span(0, 0, 0, 1), span(1, 0, 2, 9), span(2, 0, 5, -1)}
	cases := []struct {
		order []int
		want  bool
	}{
		{[]int{0, 1}, true},
		{[]int{0, 1, 2}, true},
		{[]int{0, 2, 1}, true},
		{[]int{2, 0, 1}, false},
		{[]int{1, 2, 0}, false},
		{nil, false},
		{[]int{0, 1, 1}, false},
		{[]int{0, 1, 3}, false},
		{[]int{0, 1, -1}, false},
		{[]int{0, 1, math.MaxInt}, false},
		{[]int{math.MinInt, 0, 1}, false},
	}
	for _, c := range cases {
		if got := hist.Keeps(l, c.order); got != c.want {
			t.Errorf("Keeps of %v: %v", c.order, got)
		}
	}
	if !hist.Keeps(nil, nil) || hist.Keeps(nil, []int{0}) || !hist.Keeps([]api.Span{span(0, 0, 0, -9)}, nil) {
		t.Error("Keeps of nothing")
	}
}

// P5.5.
func TestWhatAKeptOrderHasAhead(t *testing.T) {
	some := spansOf([]int{0}, []int{0}, numbers(0, 2), numbers(-1, 2))
	some = slices.DeleteFunc(some, func(s api.Span) bool { return s.To >= 0 && s.To < s.From })
	for l := range lists(some, 3) {
		for _, n := range []int{1, 2, 3} {
			for order := range lists(numbers(0, 2), n) {
				if hist.Keeps(l, order) {
					checkClosed(t, l, order)
				}
			}
		}
	}
}

// checkClosed tells of a beginning of the order that has a span without one that is ahead of it.
func checkClosed(t *testing.T, l []api.Span, order []int) {
	t.Helper()
	for place, number := range order {
		for other := range l {
			if hist.Ahead(l[other], l[number]) && !slices.Contains(order[:place], other) {
				t.Errorf("%v in the order %v: up to the place %d the span %d is missing", l, order, place, other)
			}
		}
	}
}

// P5.2, P5.6: of all short lists all that can be left, with left too short and too long.
func TestFirst(t *testing.T) {
	some := append(spansOf([]int{0}, []int{0}, numbers(-1, 2), numbers(-2, 2)), ends()[20:28]...)
	for n := range 3 {
		for l := range lists(some, n) {
			checkFirst(t, l)
		}
	}
	for l := range lists(spansOf([]int{0}, []int{0}, []int{0, 2, 4}, []int{-1, 1, 3}), 4) {
		checkFirst(t, l)
	}
}

func checkFirst(t *testing.T, l []api.Span) {
	t.Helper()
	for k := range len(l) + 2 {
		for left := range lists([]bool{false, true}, k) {
			got := hist.First(l, left)
			if !slices.Equal(got, firstByWords(l, left)) {
				t.Errorf("First(%v, %v): %v", l, left, got)
			}
			if len(got) == 0 && slices.Contains(left[:min(k, len(l))], true) && proper(l) {
				t.Errorf("First(%v, %v) is empty", l, left)
			}
		}
	}
}

// proper tells whether each span has To not below From, or is pending: of two that are ahead of one another none is first.
func proper(l []api.Span) bool {
	for _, s := range l {
		if s.To >= 0 && s.To < s.From {
			return false
		}
	}
	return true
}

// P5.2: spans that return ahead of their own begin are ahead of others, not counted against themselves.
func TestFirstOfSpansAheadOfThemselves(t *testing.T) {
	l := []api.Span{span(0, 0, 5, 1), span(0, 0, 3, 2)}
	if got := hist.First(l, []bool{true, false}); !slices.Equal(got, []int{0}) {
		t.Error(got)
	}
	if got := hist.First(l, []bool{true, true}); len(got) != 0 {
		t.Error(got)
	}
	if got := hist.First(nil, []bool{true}); len(got) != 0 {
		t.Error(got)
	}
	if got := hist.First(l, nil); len(got) != 0 {
		t.Error(got)
	}
}

// P5.2.
func TestWidth(t *testing.T) {
	some := spansOf([]int{0}, []int{0}, numbers(-1, 3), numbers(-2, 3))
	for n := range 4 {
		for l := range lists(some, n) {
			if got := hist.Width(l); got != widthByWords(l, 4) {
				t.Errorf("Width(%v): %d", l, got)
			}
		}
	}
	cases := []struct {
		l    []api.Span
		want int
	}{
		{nil, 0},
		{[]api.Span{span(0, 0, 0, math.MaxInt), span(1, 0, math.MaxInt, -1)}, 2},
		{[]api.Span{span(0, 0, 0, math.MaxInt-1), span(1, 0, math.MaxInt, -1)}, 1},
		{[]api.Span{span(0, 0, math.MinInt, math.MinInt), span(1, 0, math.MaxInt, math.MaxInt)}, 2},
		{[]api.Span{span(0, 0, 9, 12), span(1, 0, 0, 4), span(2, 0, 2, 10), span(3, 0, 3, 3), span(4, 0, 11, -1)}, 3},
		{[]api.Span{span(0, 0, 5, 3), span(1, 0, 4, 0)}, 0},
		{[]api.Span{span(0, 0, 0, -5), span(0, 0, 0, -1), span(0, 0, 7, 7)}, 3},
	}
	for _, c := range cases {
		if got := hist.Width(c.l); got != c.want {
			t.Errorf("Width(%v): %d, not %d", c.l, got, c.want)
		}
	}
}

// P5.3, P5.8.
func TestCut(t *testing.T) {
	some := append(spansOf([]int{0, 1}, []int{0, 1}, numbers(0, 3), numbers(-1, 3)), ends()[10:40]...)
	for n := range 3 {
		for l := range lists(some, n) {
			for step := -2; step <= 4; step++ {
				checkCut(t, l, step)
			}
		}
	}
	l := []api.Span{span(0, 0, 0, math.MaxInt), span(1, 0, math.MaxInt-1, -1), span(2, 0, 4, -7)}
	for _, step := range []int{math.MinInt, math.MaxInt - 2, math.MaxInt - 1, math.MaxInt} {
		checkCut(t, l, step)
	}
	if got := hist.Cut(nil, 3); len(got) != 0 {
		t.Error(got)
	}
}

func checkCut(t *testing.T, l []api.Span, step int) {
	t.Helper()
	var want []api.Span
	for _, s := range l {
		if s.From <= step && s.To > step {
			want = append(want, span(s.Thread, s.Index, s.From, -1))
		} else if s.From <= step {
			want = append(want, s)
		}
	}
	got := hist.Cut(l, step)
	if !slices.Equal(got, want) {
		t.Errorf("Cut(%v, %d): %v", l, step, got)
	}
	if rightSpans(l) && hist.Right(got) != api.OK {
		t.Errorf("Cut(%v, %d): %v, which is not right", l, step, got)
	}
}

// P5.8: longer right spans, in an order that is not that of their first steps.
func TestCutOfRightSpansIsRight(t *testing.T) {
	l := []api.Span{span(4, 0, 6, 8), span(-1, 0, 0, 3), span(4, 1, 9, -1), span(-1, 1, 4, 4), span(-1, 2, 5, 12), span(0, 0, 1, 7)}
	if hist.Right(l) != api.OK {
		t.Fatal("not right")
	}
	for step := -1; step < 15; step++ {
		checkCut(t, l, step)
	}
}

// P3 of the document's rules: what is handed in stays, and what is answered lies elsewhere.
func TestListsAreTheCallers(t *testing.T) {
	events := []api.Event{call(0, 0, 0), call(1, 1, 0), back(2, 0, 0), call(9, 9, 9)}
	kept := slices.Clone(events)
	l, _ := hist.Spans(events[:3])
	again, _ := hist.Spans(events[:3])
	l[0].To = 77
	if !slices.Equal(events, kept) || again[0].To != 2 {
		t.Error("Spans")
	}
	spans := []api.Span{span(0, 0, 0, 2), span(1, 0, 1, 5), span(2, 0, 9, 9)}
	keptSpans := slices.Clone(spans)
	order, left := []int{0, 1, 5}, []bool{true, true, false, true}
	keptOrder, keptLeft := slices.Clone(order), slices.Clone(left)
	cut := hist.Cut(spans[:2], 3)
	cut[0].From = 99
	_ = append(cut, span(7, 7, 7, 7))
	hist.Keeps(spans[:2], order[:2])
	hist.First(spans[:2], left[:3])
	hist.Width(spans[:2])
	hist.Right(spans[:2])
	hist.Print(spans[:2])
	if !slices.Equal(spans, keptSpans) || !slices.Equal(order, keptOrder) || !slices.Equal(left, keptLeft) {
		t.Error("what was handed in has changed")
	}
}
