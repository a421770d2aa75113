package hist_test

import (
	"math"
	"slices"
	"strconv"
	"strings"
	"testing"

	"shutter/api"
	"shutter/hist"
)

// P5.3, P5.7.
func TestPrintAndParse(t *testing.T) {
	cases := []struct {
		l    []api.Span
		want string
	}{
		{nil, ""},
		{[]api.Span{}, ""},
		{[]api.Span{span(0, 0, 0, 2), span(1, 0, 1, -1)}, "0 0 0 2\n1 0 1 -\n"},
		{[]api.Span{span(-12, 0, 10, 10), span(-12, 1, 100, 102)}, "-12 0 10 10\n-12 1 100 102\n"},
		{[]api.Span{span(1, 0, 7, -1), span(0, 0, 2, 3)}, "1 0 7 -\n0 0 2 3\n"},
		{[]api.Span{span(math.MinInt, 0, 0, math.MaxInt), span(math.MaxInt, 0, math.MaxInt-1, -1)},
			"-9223372036854775808 0 0 9223372036854775807\n9223372036854775807 0 9223372036854775806 -\n"},
	}
	for _, c := range cases {
		if s, errno := hist.Print(c.l); s != c.want || errno != api.OK {
			t.Errorf("Print(%v): %q, %d", c.l, s, errno)
		}
		if l, errno := hist.Parse(c.want); errno != api.OK || !slices.Equal(l, c.l) {
			t.Errorf("Parse(%q): %v, %d", c.want, l, errno)
		}
	}
}

// P5.3, P5.7: all short lists.
func TestPrintOfAllShortLists(t *testing.T) {
	some := spansOf([]int{-7, 2}, numbers(-1, 1), numbers(-1, 3), numbers(-2, 3))
	for n := range 3 {
		for l := range lists(some, n) {
			checkPrint(t, l)
		}
	}
}

func checkPrint(t *testing.T, l []api.Span) {
	t.Helper()
	s, errno := hist.Print(l)
	if !rightSpans(l) {
		if s != "" || errno != api.ErrHistory {
			t.Errorf("Print(%v): %q, %d", l, s, errno)
		}
		return
	}
	if errno != api.OK || s != textByWords(l) {
		t.Errorf("Print(%v): %q, %d", l, s, errno)
	}
	if again, errno := hist.Parse(s); errno != api.OK || !slices.Equal(again, l) {
		t.Errorf("Parse(%q): %v, %d", s, again, errno)
	}
}

func textByWords(l []api.Span) string {
	s := ""
	for _, x := range l {
		to := "-"
		if x.To != -1 {
			to = strconv.Itoa(x.To)
		}
		s += strings.Join([]string{strconv.Itoa(x.Thread), strconv.Itoa(x.Index), strconv.Itoa(x.From), to}, " ") + "\n"
	}
	return s
}

// P5.3, P8 of the document's rules.
func TestParseOfTextsThatAreNone(t *testing.T) {
	texts := []string{
		"\n", " ", " \n", "0", "-\n", "0 0 0\n", "0 0 0 \n", "0 0 0 2", "0 0 0 2\n\n", "\n0 0 0 2\n",
		"0 0 0 2 \n", " 0 0 0 2\n", "0  0 0 2\n", "0 0 0 2 5\n", "0 0 0 2\r\n", "0\t0\t0\t2\n", "0 0 0 2\n1 0 3 4",
		"00 0 0 2\n", "0 00 0 2\n", "0 0 00 2\n", "0 0 0 02\n", "-0 0 0 2\n", "0 -0 0 2\n", "0 0 -0 2\n", "0 0 0 -0\n",
		"+0 0 0 2\n", "0 0 0 +2\n", "-01 0 0 2\n", "--1 0 0 2\n", "- 0 0 2\n", "0 - 0 2\n", "0 0 - 2\n", "0 0 0 --\n",
		"0 0 0 -1\n", "0 0 0 -2\n", "0x1 0 0 2\n", "1_0 0 0 2\n", "1e1 0 0 2\n", "a 0 0 2\n", "0 0 0 2.0\n", "0 0 0 2\x00\n",
		"9223372036854775808 0 0 2\n", "-9223372036854775809 0 0 2\n", "0 0 0 9223372036854775808\n",
		"99999999999999999999999999 0 0 2\n", "0 0 0 18446744073709551615\n",
		"\u0660 0 0 2\n", "0\u00a00 0 2\n", "\ufeff0 0 0 2\n", "0 0 0 2\v",
		// spans, but not right ones
		"0 1 0 2\n", "0 0 -1 2\n", "0 0 3 2\n", "0 -1 0 2\n", "0 0 0 -\n0 1 2 3\n", "0 0 0 2\n0 1 2 3\n", "0 0 0 2\n0 2 3 4\n",
		"0 0 0 2\n1 0 0 3\n", "0 0 0 2\n1 0 1 2\n", "0 0 0 2\n1 0 2 3\n", "0 0 0 2\n1 1 3 4\n", "0 0 0 2\n0 0 0 2\n",
	}
	for _, s := range texts {
		if l, errno := hist.Parse(s); errno != api.ErrForm || len(l) != 0 {
			t.Errorf("Parse(%q): %v, %d", s, l, errno)
		}
	}
}

// P5.7: of texts with a sign too few, or one too many, or another one, what is read is what is written.
func TestParseOfTextsNearby(t *testing.T) {
	text := "0 0 0 2\n-10 0 1 5\n0 1 30 30\n7 0 4 -\n"
	if _, errno := hist.Parse(text); errno != api.OK {
		t.Fatal(errno)
	}
	signs := []string{"", "0", "1", "9", " ", "\n", "-", "+", "\t", "x"}
	taken := 0
	for i := range len(text) + 1 {
		for _, sign := range signs {
			taken += checkParse(t, text[:i]+sign+text[i:])
			if i < len(text) {
				taken += checkParse(t, text[:i]+sign+text[i+1:])
			}
		}
	}
	if taken < 50 {
		t.Error("too few of them are right:", taken)
	}
}

// checkParse is 1, if the text is taken.
func checkParse(t *testing.T, s string) int {
	t.Helper()
	l, errno := hist.Parse(s)
	if errno != api.OK {
		if errno != api.ErrForm || len(l) != 0 {
			t.Errorf("Parse(%q): %v, %d", s, l, errno)
		}
		return 0
	}
	if again, errno := hist.Print(l); again != s || errno != api.OK {
		t.Errorf("Parse(%q) is printed %q", s, again)
	}
	return 1
}

// A history that is long is no other than a short one.
func TestLongHistory(t *testing.T) {
	var events []api.Event
	for i := range 20000 {
		thread := i % 7
		if (i/7)%2 == 0 {
			events = append(events, call(i, thread, i/14))
		} else {
			events = append(events, back(i, thread, i/14))
		}
	}
	l, errno := hist.Spans(events)
	if errno != api.OK || len(l) < 10000 || hist.Right(l) != api.OK || hist.Width(l) != 7 {
		t.Fatal(len(l), errno, hist.Width(l))
	}
	s, _ := hist.Print(l)
	if again, errno := hist.Parse(s); errno != api.OK || !slices.Equal(again, l) {
		t.Error(errno)
	}
	if !hist.Keeps(l, numbers(0, len(l)-1)) {
		t.Error("by first steps it is kept")
	}
}
