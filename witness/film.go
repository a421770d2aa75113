package witness

import (
	"shutter/api"
)

// Where a store lies: the camera, and the first object of the root.
const (
	cameraCell = 1
	rootCell   = 2
)

// unread is the step at which a stamp was read that is not set.
const unread = -1

// laid is the number of an access ahead of all.
const laid = -1

// film is what came of a script, and which cells its accesses can tell of as objects.
type film struct {
	api.Result
	objects map[uint64]int // by their addresses: the number of the access that they were handed out by
}

func newFilm(r api.Result) *film {
	f := &film{Result: r, objects: map[uint64]int{}}
	f.noteBranch(rootCell, laid)
	for i, a := range r.Trace {
		if a.Kind == api.Alloc && a.Addr != 0 && len(a.Values) == api.Fan {
			f.noteBranch(a.Addr, i)
		}
	}
	return f
}

// noteBranch notes that the cells of a branch are objects, from an access on.
func (f *film) noteBranch(addr uint64, number int) {
	for i := range uint64(api.Fan) {
		if _, known := f.objects[addr+i]; !known {
			f.objects[addr+i] = number
		}
	}
}

// ofObject tells whether the cell of an access was an object by then.
func (f *film) ofObject(number int) bool {
	since, ok := f.objects[f.Trace[number].Addr]
	return ok && since < number
}

// installs tells whether an access put a version into an object.
func (f *film) installs(number int) bool {
	a := f.Trace[number]
	return done(a) && a.B != 0 && f.ofObject(number)
}

// looks tells whether an access looked into an object.
func (f *film) looks(number int) bool {
	return f.Trace[number].Kind == api.Load && f.ofObject(number)
}

func done(a api.Access) bool {
	return a.Kind == api.Cas && a.Ok
}

func readsCamera(a api.Access) bool {
	return a.Kind == api.Load && a.Addr == cameraCell
}

// stamps are the versions that were installed, in that order.
func (f *film) stamps() []Stamp {
	var l []Stamp
	read := map[int]int{}         // of each thread the step at which it read the camera last
	waiting := map[uint64][]int{} // by cells: the versions whose stamp the next Cas from 0 there sets
	for i, a := range f.Trace {
		if readsCamera(a) {
			read[a.Thread] = f.Steps[i]
		}
		if done(a) && a.A == 0 {
			if step, ok := read[a.Thread]; ok {
				set(l, waiting[a.Addr], a.B, step)
			}
			delete(waiting, a.Addr)
		}
		if f.installs(i) {
			waiting[a.B+1] = append(waiting[a.B+1], len(l))
			l = append(l, Stamp{Version: a.B, Installed: f.Steps[i], Read: unread})
		}
	}
	return l
}

// set gives a stamp to versions.
func set(l []Stamp, numbers []int, stamp uint64, step int) {
	for _, number := range numbers {
		l[number].Stamp, l[number].Read = stamp, step
	}
}
