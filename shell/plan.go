package shell

import (
	"strconv"

	"shutter/api"
	"shutter/explore"
	"shutter/store"
	"shutter/witness"
)

func (r *room) planOp(l line) string {
	op, ok := l.op()
	if !ok {
		return noOp
	}
	r.plan[l.thread] = append(r.plan[l.thread], op)
	return tellOK
}

func (r *room) unplan(line) string {
	clear(r.plan[:])
	return tellOK
}

// script is the plan's, up to its last thread that has an operation.
func (r *room) script(picks []int) api.Script {
	threads := r.plan[:]
	for len(threads) > 0 && len(threads[len(threads)-1]) == 0 {
		threads = threads[:len(threads)-1]
	}
	return api.Script{Config: r.config, Threads: threads, Picks: picks}
}

func (r *room) planned(line) string {
	return row("threads", r.script(nil).Threads, func(ops []api.Op) string {
		return strconv.Itoa(len(ops))
	})
}

// ran is the plan's script with the picks of a line, and what comes of it. (What store.Run has errors for does not come up: a script of lines has no room for so much.)
func (r *room) ran(l line) (api.Script, api.Result) {
	s := r.script(l.picks())
	result, _ := store.Run(s)
	return s, result
}

func (r *room) run(l line) string {
	return explore.Outcome(r.ran(l))
}

func (r *room) order(l line) string {
	_, result := r.ran(l)
	order, _ := witness.Order(r.config, result)
	return row("order", order, strconv.Itoa)
}

// tryBy tells what a way of trying the plan's script comes to.
func tryBy(way func(s api.Script) ([]string, int, api.Errno)) func(r *room, l line) string {
	return func(r *room, _ line) string {
		return tellOutcomes(way(r.script(nil)))
	}
}

func (r *room) bounded(l line) string {
	return tellOutcomes(explore.Bounded(r.script(nil), int(l.numbers[0])))
}

func tellOutcomes(l []string, runs int, errno api.Errno) string {
	if errno != api.OK {
		return tellError(errno)
	}
	return row(strconv.Itoa(runs)+":", l, func(outcome string) string {
		return "[" + outcome + "]"
	})
}

func (r *room) reach(l line) string {
	picks, errno := explore.Reach(r.script(nil), l.text())
	if errno != api.OK {
		return tellError(errno)
	}
	return row("picks", picks, strconv.Itoa)
}
