package script

import (
	"strings"

	"shutter/api"
	"shutter/store"
)

// part is a part of a script's text: those that are read come one behind the other.
type part int

const (
	atConfig part = iota
	inThreads
	inPicks
	atEnd // behind a line of picks that is not full no other one comes
)

// reading is what has been read of a script's text.
type reading struct {
	script api.Script
	at     part
	ops    vocabulary
	lines  map[string]func(parts []string) bool // for each word of a line that is no operation: takes its parts
}

func newReading() *reading {
	r := &reading{ops: newVocabulary()}
	r.lines = map[string]func(parts []string) bool{
		configWord: r.config,
		threadWord: r.thread,
		picksWord:  r.picks,
	}
	return r
}

// takes reads the next line, and tells whether a script's text can go on with it.
func (r *reading) takes(line string) bool {
	parts := strings.Split(line, " ")
	if say, ok := r.lines[parts[0]]; ok {
		return say(parts[1:])
	}
	return r.operation(line)
}

func (r *reading) config(parts []string) bool {
	if r.at != atConfig || len(parts) != 4 {
		return false
	}
	sizes, ok := numbers(integer, parts[0], parts[1], parts[3])
	if !ok {
		return false
	}
	stamps, ok := natural(parts[2])
	if !ok {
		return false
	}
	r.at = inThreads
	r.script.Config = api.Config{Cells: sizes[0], Slots: sizes[1], Stamps: stamps, Multi: sizes[2]}
	_, errno := store.New(r.script.Config)
	return errno == api.OK
}

func (r *reading) thread(parts []string) bool {
	if r.at != inThreads || len(parts) != 0 {
		return false
	}
	r.script.Threads = append(r.script.Threads, nil)
	return true
}

func (r *reading) operation(line string) bool {
	last := len(r.script.Threads) - 1
	if r.at != inThreads || last < 0 {
		return false
	}
	o, ok := r.ops.parse(line)
	r.script.Threads[last] = append(r.script.Threads[last], o)
	return ok
}

func (r *reading) picks(parts []string) bool {
	if r.at != inThreads && r.at != inPicks {
		return false
	}
	l, ok := numbers(integer, parts...)
	if !ok || len(l) == 0 || len(l) > picksOfLine {
		return false
	}
	r.script.Picks = append(r.script.Picks, l...)
	r.at = inPicks
	if len(l) < picksOfLine {
		r.at = atEnd
	}
	return true
}
