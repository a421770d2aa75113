package replay

import (
	"shutter/api"
	"shutter/explore"
)

// noStep is that of an access of which none is written down.
const noStep = -1

// moment is a thread's step.
type moment struct {
	thread, step int
}

// Swaps are the numbers of the steps that can change places with the next one, and nothing comes of it.
func Swaps(r api.Result) []int {
	edges := edgesOf(r.Dids)
	var l []int
	for i := 0; i+1 < len(r.Trace); i++ {
		a, b := momentOf(r, i), momentOf(r, i+1)
		if a.thread == b.thread || a.step == b.step || isEdge(edges, a) || isEdge(edges, b) {
			continue
		}
		if !explore.Clash(r.Trace[i], r.Trace[i+1]) {
			l = append(l, i)
		}
	}
	return l
}

// momentOf is that at which an access was made.
func momentOf(r api.Result, access int) moment {
	m := moment{r.Trace[access].Thread, noStep}
	if access < len(r.Steps) {
		m.step = r.Steps[access]
	}
	return m
}

// edgesOf are the moments at which calls begin, or return: these steps say which calls go ahead of which, so they stay where they are.
func edgesOf(l []api.Did) map[moment]struct{} {
	edges := map[moment]struct{}{}
	for _, d := range l {
		edges[moment{d.Span.Thread, d.Span.From}] = struct{}{}
		if returned(d) {
			edges[moment{d.Span.Thread, d.Span.To}] = struct{}{}
		}
	}
	return edges
}

func isEdge(edges map[moment]struct{}, m moment) bool {
	_, ok := edges[m]
	return ok
}
