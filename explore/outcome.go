package explore

import (
	"strings"

	"shutter/api"
	"shutter/script"
)

// What stands between the answers of a thread, between threads, and for an answer that was not told.
const (
	nextAnswer = "; "
	nextThread = " | "
	notTold    = "-"
)

// Outcome is the answers of a run as a text.
func Outcome(s api.Script, r api.Result) string {
	type place struct{ thread, index int }
	first := map[place]int{}
	for i, d := range r.Dids {
		at := place{d.Span.Thread, d.Span.Index}
		if _, known := first[at]; !known {
			first[at] = i
		}
	}
	return textOf(s.Threads, func(thread, index int) string {
		i, ok := first[place{thread, index}]
		if !ok || r.Dids[i].Span.To < 0 {
			return notTold
		}
		return script.PrintAnswer(s.Threads[thread][index].Kind, r.Dids[i].Answer)
	})
}

// textOf is an outcome, by what is told of each operation.
func textOf(threads [][]api.Op, tell func(thread, index int) string) string {
	var all []string
	for i, ops := range threads {
		var answers []string
		for j := range ops {
			answers = append(answers, tell(i, j))
		}
		all = append(all, strings.Join(answers, nextAnswer))
	}
	return strings.Join(all, nextThread)
}
