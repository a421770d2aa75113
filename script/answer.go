package script

import (
	"strconv"
	"strings"

	"shutter/api"
)

// PrintAnswer is an answer as a line.
func PrintAnswer(o api.OpKind, a api.Answer) string {
	if a.Errno != api.OK {
		return "errno " + strconv.Itoa(int(a.Errno))
	}
	switch o {
	case api.Get, api.Put, api.Delete:
		return printFound(a)
	case api.Swap:
		if a.Done {
			return "done " + decimal(a.Value)
		}
		return printFound(a)
	case api.Snapshot:
		return "handle " + decimal(a.Handle)
	case api.MultiGet, api.Range:
		return printPairs(a.Pairs)
	case api.Count, api.Collect:
		return "count " + decimal(a.Count)
	}
	return "ok"
}

func printFound(a api.Answer) string {
	if a.Found {
		return "found " + decimal(a.Value)
	}
	return "none"
}

func printPairs(l []api.Pair) string {
	parts := []string{"pairs"}
	for _, p := range l {
		parts = append(parts, decimal(p.Key)+":"+decimal(p.Value))
	}
	return strings.Join(parts, " ")
}
