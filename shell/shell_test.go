package shell_test

import (
	"strconv"
	"strings"
	"testing"

	"shutter/api"
	"shutter/shell"
)

// said is a line and its answer.
type said [2]string

// check does lines as one script, and holds each answer against the one that is said.
func check(t *testing.T, l ...said) {
	t.Helper()
	var script strings.Builder
	for _, one := range l {
		script.WriteString(one[0] + "\n")
	}
	answers := answersOf(shell.Run(script.String()))
	if len(answers) != len(l) {
		t.Fatalf("%d answers of %d lines", len(answers), len(l))
	}
	for i, one := range l {
		if answers[i] != one[1] {
			t.Errorf("%d: %s: %q, not %q", i, one[0], answers[i], one[1])
		}
	}
}

// answersOf are a script's, one each.
func answersOf(text string) []string {
	if text == "" {
		return nil
	}
	return strings.Split(strings.TrimSuffix(text, "\n"), "\n")
}

// P28.1: the chapter's example.
func TestExample(t *testing.T) {
	check(t,
		said{"new a 2000 2 100 4", "ok"},
		said{"do a put 7 1", "none"},
		said{"do a snapshot", "handle 1"},
		said{"do a put 7 2", "found 1"},
		said{"do a range 1 0 100", "pairs 7:1"},
		said{"do a get 7", "found 2"},
		said{"start a 0 put 8 3", "ok"},
		said{"step a 0", "step"},
		said{"content a", "pairs 7:2"},
		said{"finish a 0", "done none"},
		said{"handles a", "handles 1"},
		said{"slots a", "slots exact 0 1, free 0 0"},
		said{"do a release @0.0", "errno 33"},
		said{"step a 0", "idle"},
		said{"hello", "word"},
		said{"plan a 0 put 7 1", "ok"},
		said{"plan a 1 get 7", "ok"},
		said{"run a 0 1", "- | none"},
		said{"bounded a 0", "2: [none | found 1] [none | none]"},
		said{"reach a none | none", "picks 0 0 0 0 1 0 0 0 0"},
		said{"dump a 1", "5348553101070127c5f0d2"},
	)
}

// P28.1: how lines are cut.
func TestCutting(t *testing.T) {
	for _, c := range []struct{ script, want string }{
		{"", ""},
		{"\n", ""},
		{"\n\n\n", ""},
		{"   ", ""},
		{"   \n  \n", ""},
		{"#", ""},
		{"# new a 2000 2 100 4\n", ""},
		{"  #new a 2000 2 100 4", ""},
		{"#\n#\nhello", "word\n"},
		{"hello", "word\n"},
		{"hello\n", "word\n"},
		{"hello\nhello", "word\nword\n"},
		{"new a 2000 2 100 4", "ok\n"},
		{"   new   a  2000 2 100   4   \n\n# a remark\n  left a", "ok\n1932\n"},
		{"new a 2000 2 100 4 # a remark", "word\n"},
		{"new a 2000 2 100 4\r\nleft a", "word\nnone\n"},
		{"new\ta 2000 2 100 4", "word\n"},
		{"\t", "word\n"},
		{"\r\n", "word\n"},
		{"\x00\n\xff\xfe", "word\nword\n"},
		{"new a 2000 2 100 4\ndo a   put  7   1 \n do a get 7", "ok\nnone\nfound 1\n"},
		{"new a 2000 2 100 4\ndo a put\t7 1", "ok\nop\n"},
		{"new a 2000 2 100 4\n\n \n#\nleft a\n\n", "ok\n1932\n"},
		{"New a 2000 2 100 4", "word\n"},
	} {
		if got := shell.Run(c.script); got != c.want {
			t.Errorf("%q: %q, not %q", c.script, got, c.want)
		}
	}
}

// P28.1: a script of as many bytes as may be, and of one more.
func TestLong(t *testing.T) {
	script := "left a\nnew a 2000 2 100 4\nleft a\n"
	whole := script + "#" + strings.Repeat("x", api.MaxScript-len(script)-1)
	if got := shell.Run(whole); got != "none\nok\n1932\n" {
		t.Errorf("%q", got)
	}
	if got := shell.Run(whole + "\n"); got != "long\n" {
		t.Errorf("%q", got)
	}
	if got := shell.Run(strings.Repeat("\n", 10*api.MaxScript)); got != "long\n" {
		t.Errorf("%q", got)
	}
}

// forms are all lines, right ones, with a store that is named a.
func forms() []string {
	return []string{
		"new a 2000 2 100 4", "do a get 7", "start a 0 get 7", "step a 0", "finish a 0", "pending a", "content a", "handles a", "slots a",
		"kept a", "stamp a", "left a", "trace a", "plan a 0 get 7", "unplan a", "planned a", "run a 0 1", "order a 0 1", "outcomes a",
		"few a", "reduced a", "bounded a 1", "reach a none", "dump a 1", "diff a 1 1", "restore a 5348553101070127c5f0d2",
	}
}

// P28.1: which words a line has.
func TestWords(t *testing.T) {
	leastWords := map[string]int{"do": 3, "start": 4, "plan": 4, "run": 2, "order": 2, "reach": 2} // of lines that may have more
	for _, line := range forms() {
		words := strings.Fields(line)
		first := words[0]
		least, open := leastWords[first]
		if !open {
			least = len(words)
		}
		for n := 1; n < least; n++ {
			check(t, said{"new a 2000 2 100 4", "ok"}, said{strings.Join(words[:n], " "), "word"})
		}
		if !open {
			check(t, said{"new a 2000 2 100 4", "ok"}, said{line + " 1", "word"}, said{line + " x", "word"})
		}
		// A name that is none, whether there is a store or not.
		for _, name := range []string{"A", "a1", "1", "abcdefghi", "a_", "ä", "a.", "@", "`", "{", "aB"} {
			wrong := append([]string{first, name}, words[2:]...)
			check(t, said{"new a 2000 2 100 4", "ok"}, said{strings.Join(wrong, " "), "word"})
		}
		// Another first word.
		for _, other := range []string{first + "x", first[:len(first)-1], strings.ToUpper(first), first + ":"} {
			wrong := append([]string{other}, words[1:]...)
			check(t, said{"new a 2000 2 100 4", "ok"}, said{strings.Join(wrong, " "), "word"})
		}
		if first != "new" {
			check(t, said{line, "none"}, said{"new b 2000 2 100 4", "ok"}, said{line, "none"})
		}
	}
}

// P28.1, P8: numbers, wherever one stands.
func TestNumbers(t *testing.T) {
	for _, line := range []string{
		"new a N 2 100 4", "new a 2000 N 100 4", "new a 2000 2 N 4", "new a 2000 2 100 N", "start a N get 7", "step a N", "finish a N",
		"plan a N get 7", "run a N", "run a 0 1 N", "order a N", "order a 0 N 0", "bounded a N", "dump a N", "diff a N 1", "diff a 1 N",
	} {
		for _, n := range []string{"x", "-1", "+1", "01", "00", "-0", "1.0", "1e3", "0x1", "1_0", "٣", "9223372036854775808", "18446744073709551616", "99999999999999999999999"} {
			check(t, said{"new a 2000 2 100 4", "ok"}, said{strings.Replace(line, "N", n, 1), "word"})
		}
	}
	most := "9223372036854775807"
	check(t,
		said{"new a " + most + " 2 100 4", "error 2"},
		said{"new a 2000 " + most + " 100 4", "error 2"},
		said{"new a 2000 2 " + most + " 4", "error 2"},
		said{"new a 2000 2 100 " + most, "error 2"},
		said{"new a 2000 2 100 4", "ok"},
		said{"start a " + most + " get 7", "range"},
		said{"step a " + most, "range"},
		said{"finish a " + most, "range"},
		said{"plan a " + most + " get 7", "range"},
		said{"plan a 0 get 7", "ok"},
		said{"run a " + most, "-"},
		said{"run a " + most + " 0", "none"},
		said{"order a " + most + " 0", "order 0"},
		said{"bounded a " + most, "1: [none]"},
		said{"dump a " + most, "error 33"},
		said{"diff a " + most + " 1", "error 33"},
	)
}

func TestNames(t *testing.T) {
	check(t,
		said{"new a 2000 2 100 4", "ok"},
		said{"new abcdefgh 2000 2 100 4", "ok"},
		said{"new z 2000 2 100 4", "ok"},
		said{"do a put 7 1", "none"},
		said{"do z put 7 2", "none"},
		said{"do abcdefgh get 7", "none"},
		said{"do a get 7", "found 1"},
		said{"do z get 7", "found 2"},
		said{"content abcdefg", "none"},
		said{"new new 2000 2 100 4", "ok"},
		said{"content new", "pairs"},
	)
}

// P28.1: a new one in the place of an old one; and an error that changes nothing.
func TestNew(t *testing.T) {
	check(t,
		said{"new a 2000 2 100 4", "ok"},
		said{"do a put 7 1", "none"},
		said{"do a snapshot", "handle 1"},
		said{"start a 3 put 8 1", "ok"},
		said{"plan a 1 get 7", "ok"},
		said{"new a 127 2 100 4", "error 2"},
		said{"new a 2000 0 100 4", "error 2"},
		said{"new a 2000 257 100 4", "error 2"},
		said{"new a 2000 2 0 4", "error 2"},
		said{"new a 2000 2 1099511627777 4", "error 2"},
		said{"new a 2000 2 100 0", "error 2"},
		said{"new a 2000 2 100 1025", "error 2"},
		said{"new a 4194305 2 100 4", "error 2"},
		said{"new a 128 63 100 4", "error 30"},
		said{"new b 128 63 100 4", "error 30"},
		said{"content b", "none"},
		said{"content a", "pairs 7:1"},
		said{"handles a", "handles 1"},
		said{"pending a", "3"},
		said{"planned a", "threads 0 1"},
		said{"new a 128 50 1099511627776 1024", "ok"},
		said{"content a", "pairs"},
		said{"handles a", "handles"},
		said{"pending a", "none"},
		said{"planned a", "threads"},
		said{"finish a 3", "idle"},
		said{"left a", "12"},
		said{"new a 4194304 256 1 1", "ok"},
		said{"left a", strconv.Itoa(4194304 - 1 - 1 - 64 - 256)},
		said{"do a snapshot", "errno 31"},
	)
}

// P28.1: all operations, done as a whole; and texts that are no operation's.
func TestDo(t *testing.T) {
	check(t,
		said{"new a 2000 2 100 2", "ok"},
		said{"do a get 7", "none"},
		said{"do a put 7 1", "none"},
		said{"do a put 18446744073709551615 18446744073709551615", "none"},
		said{"do a get 18446744073709551615", "found 18446744073709551615"},
		said{"do a swap 7 2 5", "found 1"},
		said{"do a swap 7 1 5", "done 1"},
		said{"do a swap 9 1 5", "none"},
		said{"do a snapshot", "handle 1"},
		said{"do a delete 7", "found 5"},
		said{"do a delete 7", "none"},
		said{"do a snapshot", "handle 2"},
		said{"do a snapshot", "errno 32"},
		said{"do a range 1 0 100", "pairs 7:5"},
		said{"do a range 2 0 100", "pairs"},
		said{"do a count 1 0 18446744073709551615", "count 2"},
		said{"do a count 1 9 8", "count 0"},
		said{"do a multiget 1 9 7", "pairs 7:5"},
		said{"do a multiget 1", "pairs"},
		said{"do a multiget 1 7 7 7", "errno 6"},
		said{"do a release 2", "ok"},
		said{"do a release 2", "errno 33"},
		said{"do a count 2 0 1", "errno 33"},
		said{"do a collect", "count 1"},
		said{"do a get", "op"},
		said{"do a get 7 8", "op"},
		said{"do a get 07", "op"},
		said{"do a get -7", "op"},
		said{"do a get 18446744073709551616", "op"},
		said{"do a hello", "op"},
		said{"do a get@7", "op"},
		said{"do a release @0", "op"},
		said{"do a release @0.0.0", "op"},
		said{"do a release @-1.0", "op"},
		said{"do a snapshot 1", "op"},
		said{"do a", "word"},
		said{"pending a", "none"},
	)
}

// P28.1: threads, and how far they are.
func TestThreads(t *testing.T) {
	check(t,
		said{"new a 2000 2 100 4", "ok"},
		said{"pending a", "none"},
		said{"step a 0", "idle"},
		said{"finish a 63", "idle"},
		said{"step a 64", "range"},
		said{"finish a 64", "range"},
		said{"start a 64 get 7", "range"},
		said{"start a 63 put 7 1", "ok"},
		said{"trace a", "3"},
		said{"pending a", "63"},
		said{"start a 0 get 7", "ok"},
		said{"pending a", "0 63"},
		said{"start a 5 get 7", "ok"},
		said{"pending a", "0 5 63"},
		said{"start a 5 get 8", "busy"},
		said{"start a 5 hello", "busy"},
		said{"step a 5", "done none"},
		said{"step a 5", "idle"},
		said{"finish a 5", "idle"},
		said{"pending a", "0 63"},
		said{"start a 5 hello", "op"},
		said{"pending a", "0 63"},
		said{"step a 63", "step"},
		said{"step a 63", "step"},
		said{"step a 63", "step"},
		said{"content a", "pairs"},
		said{"step a 63", "step"},
		said{"step a 63", "step"},
		said{"content a", "pairs 7:1"},
		said{"step a 63", "step"},
		said{"step a 63", "step"},
		said{"step a 63", "done none"},
		said{"trace a", "12"},
		said{"finish a 0", "done found 1"},
		said{"trace a", "17"},
		said{"pending a", "none"},
		said{"start a 63 get 9", "ok"},
		said{"do a put 9 3", "none"},
		said{"finish a 63", "done found 3"},
	)
}

// P28.1: what Refs name.
func TestRefs(t *testing.T) {
	check(t,
		said{"new a 2000 4 100 4", "ok"},
		said{"do a put 7 1", "none"},
		said{"do a snapshot", "handle 1"}, // of no thread: no Ref names it
		said{"do a count @0.0 0 9", "errno 33"},
		said{"start a 0 get 7", "ok"},
		said{"finish a 0", "done found 1"},
		said{"start a 0 snapshot", "ok"},
		said{"do a count @0.1 0 9", "errno 33"}, // it has not told anything
		said{"start a 1 count @0.1 0 9", "ok"},  // and has not when this begins
		said{"step a 0", "step"},
		said{"finish a 0", "done handle 2"},
		said{"finish a 1", "done errno 33"},
		said{"do a put 8 1", "none"},
		said{"do a range @0.1 0 9", "pairs 7:1"},
		said{"do a multiget @0.1 8 7", "pairs 7:1"},
		said{"start a 1 range @0.1 0 9", "ok"},
		said{"finish a 1", "done pairs 7:1"},
		said{"do a count @0.0 0 9", "errno 33"},  // it told no handle
		said{"do a count @0.2 0 9", "errno 33"},  // there is none such
		said{"do a count @2.0 0 9", "errno 33"},  // nor such
		said{"do a count @64.0 0 9", "errno 33"}, // nor such a thread
		said{"do a count @9223372036854775807.9223372036854775807 0 9", "errno 33"},
		said{"start a 2 count @2.0 0 9", "ok"}, // its own is not done
		said{"finish a 2", "done errno 33"},
		said{"start a 2 release @0.1", "ok"},
		said{"finish a 2", "done ok"},
		said{"do a count @0.1 0 9", "errno 33"},
		said{"do a release @0.1", "errno 33"},
		said{"start a 0 snapshot", "ok"},
		said{"finish a 0", "done handle 65538"},
		said{"do a count @0.2 0 9", "count 2"},
		said{"handles a", "handles 1 65538"},
	)
}

// P28.1: which error, if there are several.
func TestOrderOfErrors(t *testing.T) {
	check(t,
		said{"start b x hello", "word"},
		said{"start b 64", "word"},
		said{"start b 64 hello", "none"},
		said{"step b 64", "none"},
		said{"finish b 0", "none"},
		said{"do b hello", "none"},
		said{"do b", "word"},
		said{"plan b 64 hello", "none"},
		said{"restore b xx", "word"},
		said{"restore b 00", "none"},
		said{"reach b", "none"},
		said{"new b 1 1 1", "word"},
		said{"new a 2000 2 100 4", "ok"},
		said{"start a 64 hello", "range"},
		said{"plan a 64 hello", "range"},
		said{"plan a 63 hello", "op"},
		said{"start a 0 hello", "op"},
		said{"start a 0 put 7 1", "ok"},
		said{"start a 0 hello", "busy"},
		said{"start a 0 get 7", "busy"},
		said{"plan a 0 hello", "op"},
		said{"plan a 0 get 7", "ok"},
	)
}

// P28.1: what a store holds within.
func TestLooks(t *testing.T) {
	check(t,
		said{"new a 2000 3 100 4", "ok"},
		said{"stamp a", "1"},
		said{"left a", "1931"},
		said{"trace a", "3"},
		said{"kept a", "0"},
		said{"slots a", "slots free 0 0, free 0 0, free 0 0"},
		said{"do a put 7 1", "none"},
		said{"left a", "1926"},
		said{"trace a", "11"},
		said{"kept a", "1"},
		said{"start a 0 snapshot", "ok"},
		said{"step a 0", "step"},
		said{"step a 0", "step"},
		said{"slots a", "slots claimed 0 0, free 0 0, free 0 0"},
		said{"step a 0", "step"},
		said{"step a 0", "step"},
		said{"slots a", "slots early 0 1, free 0 0, free 0 0"},
		said{"handles a", "handles"},
		said{"step a 0", "step"},
		said{"step a 0", "step"},
		said{"stamp a", "2"},
		said{"step a 0", "done handle 1"},
		said{"do a put 7 2", "found 1"},
		said{"do a put 7 3", "found 2"},
		said{"kept a", "3"},
		said{"do a snapshot", "handle 2"},
		said{"do a release 1", "ok"},
		said{"do a snapshot", "handle 65537"},
		said{"handles a", "handles 2 65537"},
		said{"slots a", "slots exact 1 3, exact 0 2, free 0 0"},
		said{"do a collect", "count 2"},
		said{"kept a", "1"},
		said{"stamp a", "4"},
		said{"do a put 300 9", "none"},
		said{"do a put 0 0", "none"},
		said{"content a", "pairs 0:0 7:3 300:9"},
	)
}

// P28.1: a plan.
func TestPlan(t *testing.T) {
	check(t,
		said{"new a 2000 2 100 4", "ok"},
		said{"do a put 7 9", "none"},
		said{"planned a", "threads"},
		said{"run a", ""},
		said{"run a 0 1 2", ""},
		said{"order a 0", "order"},
		said{"outcomes a", "1: []"},
		said{"few a", "1: []"},
		said{"reduced a", "1: []"},
		said{"bounded a 0", "1: []"},
		said{"reach a", "picks"},
		said{"reach a none", "error 4"},
		said{"plan a 2 get 7", "ok"},
		said{"planned a", "threads 0 0 1"},
		said{"run a", " |  | -"},
		said{"run a 0 1 2", " |  | none"},
		said{"plan a 0 put 7 1", "ok"},
		said{"plan a 0 get 7", "ok"},
		said{"plan a 0 snapshot", "ok"},
		said{"plan a 63 count @0.2 0 100", "ok"},
		said{"planned a", "threads 3 0 1" + strings.Repeat(" 0", 60) + " 1"},
		said{"unplan a", "ok"},
		said{"planned a", "threads"},
		said{"run a 0", ""},
		said{"plan a 0 put 7 1", "ok"},
		said{"plan a 1 get 7", "ok"},
		said{"run a", "- | -"},
		said{"run a 1", "- | none"},
		said{"run a 0 0 0 0 0 0 0 0 1 1 1 1 1", "none | found 1"},
		said{"run a 64 5 0 0 0 0 0 0 0 0", "none | -"},
		said{"order a 1", "order 0"},
		said{"order a", "order"},
		said{"order a 0 0 0 0 0 0 0 0 1 1 1 1 1", "order 0 1"},
		said{"order a 0 1 0 0 0 0 0 0 0", "order 1 0"},
		said{"outcomes a", "109: [none | found 1] [none | none]"},
		said{"bounded a 0", "2: [none | found 1] [none | none]"},
		said{"reach a none  |   none", "picks 0 0 0 0 1 0 0 0 0"},
		said{"reach a none | found 1", "picks 0 0 0 0 0 0 0 0 1 1 1 1 1"},
		said{"reach a none |none", "error 4"},
		said{"reach a", "error 4"},
		said{"content a", "pairs 7:9"},
		said{"pending a", "none"},
	)
}

// P28.1: what cannot be tried to its end, and which Config is a plan's.
func TestPlanErrors(t *testing.T) {
	check(t,
		said{"new a 128 50 1 1", "ok"},
		said{"plan a 0 put 1 1", "ok"},
		said{"plan a 0 put 2 1", "ok"},
		said{"plan a 0 put 3 1", "ok"},
		said{"plan a 0 snapshot", "ok"},
		said{"plan a 0 multiget 1 1 1", "ok"},
		said{"outcomes a", "1: [none; none; errno 30; errno 31; errno 6]"},
		said{"new a 2000 2 100 4", "ok"},
		said{"plan a 0 put 7 1", "ok"},
		said{"plan a 1 get 7", "ok"},
		said{"plan a 2 put 8 1", "ok"},
		said{"plan a 3 put 7 2", "ok"},
		said{"outcomes a", "error 6"},
		said{"bounded a 24", "error 6"},
		said{"reach a none | found 1 | none | found 1", "picks" + strings.Repeat(" 0", 8) + strings.Repeat(" 1", 5) + strings.Repeat(" 2", 8) + strings.Repeat(" 3", 14)},
		said{"reach a found 2 | found 1 | none | none", "error 6"},
	)
}
