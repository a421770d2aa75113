package shell_test

import (
	"math/rand"
	"slices"
	"strconv"
	"strings"
	"testing"

	"shutter/api"
	"shutter/explore"
	"shutter/model"
	"shutter/script"
	"shutter/shell"
	"shutter/store"
	"shutter/witness"
)

// pickOf is one of some texts.
func pickOf(r *rand.Rand, l ...string) string {
	return l[r.Intn(len(l))]
}

// drawnOp is an operation's text, now and then one that is none.
func drawnOp(r *rand.Rand) string {
	key := func() string { return strconv.Itoa(r.Intn(5)) }
	handle := func() string { return pickOf(r, "1", "2", "65537", "0", "@0.0", "@1.1", "@0.2", "@1.0") }
	switch r.Intn(11) {
	case 0:
		return "get " + key()
	case 1, 2:
		return "put " + key() + " " + key()
	case 3:
		return "delete " + key()
	case 4:
		return "swap " + key() + " " + key() + " " + key()
	case 5, 6:
		return "snapshot"
	case 7:
		return "release " + handle()
	case 8:
		return "multiget " + handle() + " " + key() + " " + key()
	case 9:
		return pickOf(r, "range ", "count ") + handle() + " 0 3"
	}
	return pickOf(r, "collect", "collect", "collect", "hello", "get")
}

// drawnLine is one that may change something.
func drawnLine(r *rand.Rand) string {
	name := pickOf(r, "a", "a", "a", "b")
	thread := pickOf(r, "0", "1", "1", "2", "64")
	switch r.Intn(16) {
	case 0:
		return "new " + name + pickOf(r, " 2000 2 100 4", " 2000 2 100 4", " 300 3 5 2", " 12 2 100 4")
	case 1, 2, 3, 4:
		return "do " + name + " " + drawnOp(r)
	case 5, 6, 7:
		return "start " + name + " " + thread + " " + drawnOp(r)
	case 8, 9, 10:
		return "step " + name + " " + thread
	case 11, 12:
		return "finish " + name + " " + thread
	case 13:
		return "plan " + name + " " + thread + " " + drawnOp(r)
	case 14:
		return pickOf(r, "unplan ", "hello ", "dump ") + name
	}
	return pickOf(r, "dump "+name+" 1", "diff "+name+" 1 2", "restore "+name+" "+hexOf(pair(1, 2), pair(3, 4)), "restore "+name+" 00")
}

// drawnLook is one that changes nothing.
func drawnLook(r *rand.Rand) string {
	name := pickOf(r, "a", "a", "b", "c")
	switch r.Intn(4) {
	case 0:
		return pickOf(r, "pending ", "content ", "handles ", "slots ") + name
	case 1:
		return pickOf(r, "kept ", "stamp ", "left ", "trace ", "planned ") + name
	case 2:
		return pickOf(r, "# ", "run ", "order ") + name + pickOf(r, "", " 0", " 0 1 0 2 1", " x", " 0 0 0 0 0 0 0 1 1 1 1 1 1 1 1")
	}
	return pickOf(r, "bounded "+name+" 0", "reach "+name+" none", "pending", "outcomes "+name+" 1", "few", "reduced A", "#")
}

func drawnLines(r *rand.Rand, count int) []string {
	l := []string{"new a 2000 2 100 4"}
	for range count {
		l = append(l, drawnLine(r))
	}
	return l
}

func textOf(l []string) string {
	return strings.Join(l, "\n") + "\n"
}

// P28.2: the answer of a script begins with that of its beginnings.
func TestBeginnings(t *testing.T) {
	r := rand.New(rand.NewSource(1))
	for range 40 {
		l := drawnLines(r, 60)
		for i := range l {
			if r.Intn(3) == 0 {
				l[i] = drawnLook(r)
			}
		}
		whole := shell.Run(textOf(l))
		for n := range l {
			beginning := textOf(l[:n+1])
			if got := shell.Run(beginning); !strings.HasPrefix(whole, got) || strings.Count(got, "\n") != answered(l[:n+1]) {
				t.Fatalf("%s: %q, but %q", beginning, got, whole)
			}
		}
		if again := shell.Run(textOf(l)); again != whole {
			t.Fatalf("%s: %q, and then %q", textOf(l), whole, again)
		}
		if bare := shell.Run(strings.TrimSuffix(textOf(l), "\n")); bare != whole {
			t.Fatalf("%s: %q, and without the last line feed %q", textOf(l), whole, bare)
		}
	}
}

// answered is how many lines have an answer.
func answered(l []string) int {
	n := 0
	for _, line := range l {
		if !strings.HasPrefix(line, "#") {
			n++
		}
	}
	return n
}

// P28.3: lines that change nothing may stand anywhere.
func TestLooksChangeNothing(t *testing.T) {
	r := rand.New(rand.NewSource(2))
	for range 200 {
		l := drawnLines(r, 80)
		var mixed []string
		var own []int // which answers are of lines of l
		answers := 0
		for _, line := range l {
			for range r.Intn(3) {
				look := drawnLook(r)
				mixed = append(mixed, look)
				answers += answered([]string{look})
			}
			mixed = append(mixed, line)
			own = append(own, answers)
			answers++
		}
		// At the end all that can be asked for is asked for.
		for _, ask := range []string{"content a", "slots a", "trace a", "planned a", "pending a", "left b"} {
			l, mixed = append(l, ask), append(mixed, ask)
			own = append(own, answers)
			answers++
		}
		want := answersOf(shell.Run(textOf(l)))
		all := answersOf(shell.Run(textOf(mixed)))
		if len(all) != answers || len(want) != len(l) {
			t.Fatalf("%d answers of %d, %d of %d", len(all), answers, len(want), len(l))
		}
		for i, at := range own {
			if all[at] != want[i] {
				t.Fatalf("%s: %q, but %q among others:\n%s", l[i], want[i], all[at], textOf(mixed))
			}
		}
	}
}

// P28.3: the searches, too.
func TestSearchesChangeNothing(t *testing.T) {
	for _, search := range []string{"run a 0 1 0", "order a 0 1 0", "outcomes a", "few a", "reduced a", "bounded a 1", "reach a none | none"} {
		check(t,
			said{"new a 2000 2 100 4", "ok"},
			said{"do a put 7 5", "none"},
			said{"start a 0 put 7 6", "ok"},
			said{"plan a 0 put 7 1", "ok"},
			said{"plan a 1 get 7", "ok"},
			said{"step a 0", "step"},
			said{"trace a", "12"},
			said{search, strings.TrimSuffix(shell.Run("new a 2000 2 100 4\nplan a 0 put 7 1\nplan a 1 get 7\n" + search)[len("ok\nok\nok\n"):], "\n")},
			said{"trace a", "12"},
			said{"planned a", "threads 1 1"},
			said{"pending a", "0"},
			said{"content a", "pairs 7:5"},
			said{"finish a 0", "done found 5"},
		)
	}
}

// P28.4 (E2): what a handle holds is told alike till it is let go.
func TestPicturesStay(t *testing.T) {
	r := rand.New(rand.NewSource(3))
	told := 0
	for range 150 {
		l := []string{"new a 20000 4 1000 4"}
		for range 2 + r.Intn(10) {
			l = append(l, "do a "+pickOf(r, "put ", "put ", "delete ")+strconv.Itoa(r.Intn(6)))
			if strings.Contains(l[len(l)-1], "put") {
				l[len(l)-1] += " " + strconv.Itoa(r.Intn(4))
			}
		}
		l = append(l, "content a", "start a 63 snapshot", "finish a 63", "do a range @63.0 0 18446744073709551615", "dump a 1")
		first := len(l)
		for range 60 {
			line := drawnLine(r)
			for strings.HasPrefix(line, "new") || strings.Contains(line, "release") {
				line = drawnLine(r)
			}
			l = append(l, line, "do a range @63.0 0 18446744073709551615", "dump a 1")
		}
		answers := answersOf(shell.Run(textOf(l)))
		held, dumped := answers[first-2], answers[first-1]
		if held != answers[first-5] || answers[first-3] != "done handle 1" {
			t.Fatalf("%q, but %q", held, answers[first-5])
		}
		for i := first; i < len(answers); i += 3 {
			if answers[i+1] != held || answers[i+2] != dumped {
				t.Fatalf("behind %s: %q, not %q; %q, not %q", l[i], answers[i+1], held, answers[i+2], dumped)
			}
			told++
		}
	}
	if told == 0 {
		t.Error("nothing was told")
	}
}

// P28.1: operations done as a whole tell what the model tells.
func TestDoIsTheModel(t *testing.T) {
	r := rand.New(rand.NewSource(4))
	for range 60 {
		m, _ := model.New(4)
		l := []string{"new a 200000 256 1000 4"}
		var want []string
		told := uint64(0)
		for range 200 {
			text := drawnOp(r)
			op, errno := script.ParseOp(text)
			if errno != api.OK || op.Kind == api.Release || op.Kind == api.Collect || op.Ref.Set {
				continue
			}
			if op.Kind == api.Snapshot {
				told++ // each slot is free, of the first generation
			}
			want = append(want, script.PrintAnswer(op.Kind, m.Do(op, told)))
			l = append(l, "do a "+text)
		}
		if got := answersOf(shell.Run(textOf(l)))[1:]; !slices.Equal(got, want) {
			t.Fatalf("%s: %q, not %q", textOf(l), got, want)
		}
	}
}

// stepLines are a script as lines that let its threads take steps, and what they must tell.
func stepLines(s api.Script, result api.Result) ([]string, []string) {
	c := s.Config
	lines := []string{"new a " + strconv.Itoa(c.Cells) + " " + strconv.Itoa(c.Slots) + " " + strconv.FormatUint(c.Stamps, 10) + " " + strconv.Itoa(c.Multi)}
	want := []string{"ok"}
	begins, returns := map[int]api.Did{}, map[int]api.Did{}
	for _, d := range result.Dids {
		begins[d.Span.From] = d
		if d.Span.To >= 0 {
			returns[d.Span.To] = d
		}
	}
	busy := map[int]int{}
	for number, thread := range s.Picks {
		name := strconv.Itoa(thread)
		if d, ok := begins[number]; ok {
			text, _ := script.PrintOp(s.Threads[thread][d.Span.Index])
			lines, want = append(lines, "start a "+name+" "+text), append(want, "ok")
			busy[thread] = 1
		}
		lines = append(lines, "step a "+name)
		d, ended := returns[number]
		switch {
		case ended:
			want = append(want, "done "+script.PrintAnswer(d.Op.Kind, d.Answer))
			busy[thread] = 0
		case busy[thread] == 1:
			want = append(want, "step")
		default:
			want = append(want, "idle")
		}
	}
	return lines, want
}

// P28.1: threads that take steps tell what store.Run tells of the same picks, and make as many accesses.
func TestStepsAreTheScripts(t *testing.T) {
	c := api.Config{Cells: 1500, Slots: 2, Stamps: 20, Multi: 3}
	for seed := range uint64(400) {
		s, errno := script.Draw(seed, c, 1+int(seed%4), 4, 300)
		if errno != api.OK {
			t.Fatal(errno)
		}
		result, errno := store.Run(s)
		if errno != api.OK {
			t.Fatal(errno)
		}
		lines, want := stepLines(s, result)
		lines, want = append(lines, "trace a"), append(want, strconv.Itoa(3+len(result.Trace)))
		if got := answersOf(shell.Run(textOf(lines))); !slices.Equal(got, want) {
			t.Fatalf("%d: %s: %q, not %q", seed, textOf(lines), got, want)
		}
	}
}

// planLines are a script as lines that plan it.
func planLines(s api.Script) []string {
	c := s.Config
	lines := []string{"new a " + strconv.Itoa(c.Cells) + " " + strconv.Itoa(c.Slots) + " " + strconv.FormatUint(c.Stamps, 10) + " " + strconv.Itoa(c.Multi)}
	for i, ops := range s.Threads {
		for _, op := range ops {
			text, _ := script.PrintOp(op)
			lines = append(lines, "plan a "+strconv.Itoa(i)+" "+text)
		}
	}
	return lines
}

func numbersText(word string, l []int) string {
	for _, n := range l {
		word += " " + strconv.Itoa(n)
	}
	return word
}

func outcomesText(l []string, runs int, errno api.Errno) string {
	if errno != api.OK {
		return "error " + strconv.Itoa(int(errno))
	}
	text := strconv.Itoa(runs) + ":"
	for _, outcome := range l {
		text += " [" + outcome + "]"
	}
	return text
}

// P28.1: a plan that is run is what store.Run and witness.Order tell of it.
func TestRunsOfPlans(t *testing.T) {
	for seed := range uint64(200) {
		s, _ := script.Draw(seed, api.Config{Cells: 1500, Slots: 2, Stamps: 20, Multi: 3}, 1+int(seed%4), 3, 200)
		result, errno := store.Run(s)
		if errno != api.OK {
			t.Fatal(errno)
		}
		order, errno := witness.Order(s.Config, result)
		if errno != api.OK {
			t.Fatal(errno)
		}
		lines := append(planLines(s), numbersText("run a", s.Picks), numbersText("order a", s.Picks))
		got := answersOf(shell.Run(textOf(lines)))
		if n := len(got); got[n-2] != explore.Outcome(s, result) || got[n-1] != numbersText("order", order) {
			t.Fatalf("%s: %q", textOf(lines), got[n-2:])
		}
	}
}

// P28.1: a plan that is tried is what explore tells of it.
func TestSearchesOfPlans(t *testing.T) {
	errors := 0
	for seed := range uint64(14) {
		s, _ := script.Draw(seed, api.Config{Cells: 300, Slots: 1, Stamps: 20, Multi: 3}, 2, 2, 0)
		lines := append(planLines(s), "few a", "reduced a", "bounded a 0", "bounded a 1", "outcomes a")
		few, runs, errno := explore.Few(s)
		want := []string{outcomesText(few, runs, errno)}
		want = append(want, outcomesText(explore.Reduced(s)))
		want = append(want, outcomesText(explore.Bounded(s, 0)))
		want = append(want, outcomesText(explore.Bounded(s, 1)))
		want = append(want, outcomesText(explore.Outcomes(s)))
		for _, outcome := range append(few, "none") {
			picks, errno := explore.Reach(s, outcome)
			lines = append(lines, "reach a "+outcome)
			want = append(want, numbersText("picks", picks))
			if errno != api.OK {
				want[len(want)-1] = "error " + strconv.Itoa(int(errno))
			}
		}
		for _, text := range want {
			if strings.HasPrefix(text, "error") {
				errors++
			}
		}
		got := answersOf(shell.Run(textOf(lines)))
		if got = got[len(got)-len(want):]; !slices.Equal(got, want) {
			t.Fatalf("%s: %q, not %q", textOf(lines), got, want)
		}
	}
	if errors == 0 {
		t.Error("nothing had an error")
	}
}

// P1, E6: any text has an answer for each line that is not passed over, and nothing panics.
func TestAnyText(t *testing.T) {
	r := rand.New(rand.NewSource(5))
	bits := append(forms(), "new", "do", "start", "plan", "restore", "a", "b", "0", "1", "64", "put 7 1", "snapshot", "@0.0", "|", "\n", "\n", "#", " ", "\t", "\xff", "00", "none")
	for range 3000 {
		var text strings.Builder
		for range r.Intn(60) {
			text.WriteString(bits[r.Intn(len(bits))])
			text.WriteString(pickOf(r, " ", " ", "\n", ""))
		}
		want := 0
		for _, line := range strings.Split(text.String(), "\n") {
			line = strings.TrimLeft(line, " ")
			if line != "" && line[0] != '#' {
				want++
			}
		}
		if got := shell.Run(text.String()); strings.Count(got, "\n") != want || got != "" && !strings.HasSuffix(got, "\n") {
			t.Fatalf("%q: %q, not %d answers", text.String(), got, want)
		}
	}
}

// E6: behind a store that is full, and one without stamps, all else goes on.
func TestShortOfAll(t *testing.T) {
	check(t,
		said{"new a 128 50 2 4", "ok"},
		said{"do a put 1 1", "none"},
		said{"do a put 2 2", "none"},
		said{"do a put 3 3", "errno 30"},
		said{"start a 0 put 4 4", "ok"},
		said{"finish a 0", "done errno 30"},
		said{"do a snapshot", "handle 1"},
		said{"do a snapshot", "errno 31"},
		said{"do a range 1 0 9", "pairs 1:1 2:2"},
		said{"dump a 1", hexOf(pair(1, 1), pair(2, 2))},
		said{"do a release 1", "ok"},
		said{"do a get 2", "found 2"},
		said{"do a collect", "count 0"},
		said{"content a", "pairs 1:1 2:2"},
	)
}

// E6: a handle that is let go amid a query of another thread.
func TestStale(t *testing.T) {
	check(t,
		said{"new a 2000 2 100 4", "ok"},
		said{"do a snapshot", "handle 1"},
		said{"start a 0 count 1 0 9", "ok"},
		said{"step a 0", "step"},
		said{"do a release 1", "ok"},
		said{"finish a 0", "done errno 34"},
	)
}
