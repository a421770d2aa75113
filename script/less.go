package script

import (
	"slices"

	"shutter/api"
	"shutter/store"
)

// place is where a call stands in a script.
type place struct {
	thread, index int
}

func placeOf(d api.Did) place {
	return place{d.Span.Thread, d.Span.Index}
}

// idle stands for a pick by which nobody takes a step.
const idle = -1

// Without is a script without its Collects, and without the picks that let them take steps.
func Without(s api.Script) (api.Script, api.Errno) {
	if errno := Right(s); errno != api.OK {
		return api.Script{}, errno
	}
	r, errno := store.Run(s)
	if errno != api.OK {
		return api.Script{}, errno
	}
	return leaveOut(s, r, func(p place) bool {
		return s.Threads[p.thread][p.index].Kind == api.Collect
	}), api.OK
}

// leaveOut is a script without some of its operations, and without the picks that let these take steps; r is what comes of it with them.
func leaveOut(s api.Script, r api.Result, gone func(p place) bool) api.Script {
	less := api.Script{Config: s.Config, Threads: make([][]api.Op, len(s.Threads))}
	ahead := goneAhead(s, gone)
	for thread, ops := range s.Threads {
		for index, o := range ops {
			if gone(place{thread, index}) {
				continue
			}
			o.Keys = append([]uint64(nil), o.Keys...)
			o.Ref = moved(o.Ref, ahead)
			less.Threads[thread] = append(less.Threads[thread], o)
		}
	}
	for i, number := range takers(s.Picks, r.Dids) {
		if number == idle || !gone(placeOf(r.Dids[number])) {
			less.Picks = append(less.Picks, s.Picks[i])
		}
	}
	return less
}

// goneAhead has, for each place of each thread, and for the one behind its end, how many operations ahead of it are gone.
func goneAhead(s api.Script, gone func(p place) bool) [][]int {
	l := make([][]int, len(s.Threads))
	for thread, ops := range s.Threads {
		n := 0
		for index := range ops {
			l[thread] = append(l[thread], n)
			if gone(place{thread, index}) {
				n++
			}
		}
		l[thread] = append(l[thread], n)
	}
	return l
}

// moved is a Ref to the same call, where that stands when others are gone; none, if it is gone itself.
func moved(ref api.Ref, ahead [][]int) api.Ref {
	if !ref.Set || ref.Thread >= len(ahead) {
		return ref
	}
	l := ahead[ref.Thread]
	end := len(l) - 1
	if ref.Index < end && l[ref.Index] < l[ref.Index+1] {
		return api.Ref{}
	}
	ref.Index -= l[min(ref.Index, end)]
	return ref
}

// takers has, for each pick, the number of the Did that takes a step by it.
func takers(picks []int, dids []api.Did) []int {
	own := map[int][]int{} // of each thread the Dids that have not returned by now
	for number, d := range dids {
		own[d.Span.Thread] = append(own[d.Span.Thread], number)
	}
	l := make([]int, len(picks))
	for i, thread := range picks {
		l[i] = idle
		left := own[thread]
		if len(left) == 0 {
			continue
		}
		l[i] = left[0]
		if dids[left[0]].Span.To == i {
			own[thread] = left[1:]
		}
	}
	return l
}

// lessening is a script from which things are left out, as long as a call tells what it told.
type lessening struct {
	script api.Script
	result api.Result // what comes of the script
	call   place      // where the call stands by now
	text   string     // what it tells
}

// Least is a script from which operations and picks are left out, as long as a call tells the same.
func Least(s api.Script, thread, index int) (api.Script, api.Errno) {
	if errno := Right(s); errno != api.OK {
		return api.Script{}, errno
	}
	r, errno := store.Run(s)
	if errno != api.OK {
		return api.Script{}, errno
	}
	call := place{thread, index}
	d, ok := returned(r.Dids, call)
	if !ok {
		return api.Script{}, api.ErrNone
	}
	// Nothing is left out here: it makes a script of its own of what was handed in.
	whole := leaveOut(s, r, func(place) bool { return false })
	l := &lessening{whole, r, call, PrintAnswer(d.Op.Kind, d.Answer)}
	l.leaveOps()
	l.leavePicks()
	return l.script, api.OK
}

// returned is what came of a call, and whether it has returned.
func returned(dids []api.Did, call place) (api.Did, bool) {
	i := slices.IndexFunc(dids, func(d api.Did) bool { return placeOf(d) == call })
	if i < 0 || dids[i].Span.To < 0 {
		return api.Did{}, false
	}
	return dids[i], true
}

// tells is what comes of a script, and whether the call, at its place there, tells the same.
func (l *lessening) tells(s api.Script, call place) (api.Result, bool) {
	r, _ := store.Run(s)
	d, ok := returned(r.Dids, call)
	return r, ok && PrintAnswer(d.Op.Kind, d.Answer) == l.text
}

// leaveOps tries an operation when those behind it in its thread have been tried: so it stands where it stood at first.
func (l *lessening) leaveOps() {
	for thread, ops := range slices.Backward(l.script.Threads) {
		for index := range slices.Backward(ops) {
			if at := (place{thread, index}); at != l.call {
				l.leaveOp(at)
			}
		}
	}
}

func (l *lessening) leaveOp(at place) {
	less := leaveOut(l.script, l.result, func(p place) bool { return p == at })
	if !slices.ContainsFunc(l.result.Dids, func(d api.Did) bool { return placeOf(d) == at }) {
		// What has not begun is missed by nobody: to run the script once more would tell the same.
		l.script = less
		return
	}
	call := l.call
	if at.thread == call.thread && at.index < call.index {
		call.index--
	}
	if r, ok := l.tells(less, call); ok {
		l.script, l.result, l.call = less, r, call
	}
}

// leavePicks tries a pick when those behind it have been tried: so all ahead of it is as it was at first.
func (l *lessening) leavePicks() {
	picks, taken := l.script.Picks, takers(l.script.Picks, l.result.Dids)
	d, _ := returned(l.result.Dids, l.call)
	needed := len(picks) // those that are needed move to the end of the list: from here on
	// Picks behind the call's return, and idle ones, are left out without trying: nobody is told anything else without them.
	for i := range slices.Backward(picks[:d.Span.To+1]) {
		if taken[i] == idle {
			continue
		}
		l.script.Picks = slices.Concat(picks[:i], picks[needed:])
		if _, ok := l.tells(l.script, l.call); !ok {
			needed--
			picks[needed] = picks[i]
		}
	}
	l.script.Picks = append([]int(nil), picks[needed:]...)
}
