package store_test

import (
	"cmp"
	"slices"

	"shutter/api"
)

// The camera's cell.
const clock = 1

// point is when an operation can be said to have been done: at a step, behind those of rank 0 there, or among them.
type point struct {
	number     int // of the operation
	step, rank int
}

// version is one that was put into an object, and the step at which its stamp was read, -1 if it has none.
type version struct {
	addr      uint64
	installed int // the number of the access
	thread    int
	read      int
}

// points tells, of a result, when its operations can be said to have been done: a change when its version's stamp was read, a picture when the camera was turned on, all else when it looked at what it tells of.
type points struct {
	api.Result
	objects  map[uint64]int // and the number of the access from which on
	versions []version
}

// orderOf is the operations, as far as they can be said to have been done, in that order.
func orderOf(r api.Result) []int {
	p := &points{Result: r, objects: map[uint64]int{}}
	for i := range uint64(api.Fan) {
		p.objects[2+i] = -1
	}
	p.gather()
	var l []point
	for i, d := range r.Dids {
		if step, rank, ok := p.pointOf(d); ok {
			l = append(l, point{i, step, rank})
		}
	}
	slices.SortFunc(l, func(a, b point) int {
		return cmp.Or(cmp.Compare(a.step, b.step), cmp.Compare(a.rank, b.rank), cmp.Compare(a.number, b.number))
	})
	var order []int
	for _, at := range l {
		order = append(order, at.number)
	}
	return order
}

func (p *points) gather() {
	for i, a := range p.Trace {
		if a.Kind == api.Alloc && len(a.Values) == api.Fan && a.Addr != 0 {
			for j := range uint64(api.Fan) {
				p.objects[a.Addr+j] = i
			}
		}
		if p.isObject(i) && a.Kind == api.Cas && a.Ok && a.B != 0 {
			p.versions = append(p.versions, version{a.B, i, a.Thread, p.readOf(i, a.B)})
		}
	}
}

// isObject tells whether an access is of an object.
func (p *points) isObject(i int) bool {
	since, ok := p.objects[p.Trace[i].Addr]
	return ok && since < i
}

// readOf is the step at which the stamp was read of the version that an access installed.
func (p *points) readOf(installed int, addr uint64) int {
	for i := installed + 1; i < len(p.Trace); i++ {
		if a := p.Trace[i]; a.Kind == api.Cas && a.Ok && a.Addr == addr+1 && a.A == 0 {
			for ; i >= 0; i-- {
				if b := p.Trace[i]; b.Kind == api.Load && b.Addr == clock && b.Thread == a.Thread {
					return p.Steps[i]
				}
			}
		}
	}
	return -1
}

// own are the numbers of an operation's accesses.
func (p *points) own(d api.Did) []int {
	var l []int
	for i, a := range p.Trace {
		if a.Thread == d.Span.Thread && p.Steps[i] >= d.Span.From && (d.Span.To < 0 || p.Steps[i] <= d.Span.To) {
			l = append(l, i)
		}
	}
	return l
}

func (p *points) pointOf(d api.Did) (int, int, bool) {
	own := p.own(d)
	for _, v := range slices.Backward(p.versions) {
		if slices.Contains(own, v.installed) {
			return v.read, 0, v.read >= 0
		}
	}
	switch {
	case d.Span.To < 0:
		return 0, 0, false
	case d.Answer.Errno != api.OK || d.Op.Kind == api.Release:
		return d.Span.To, 1, true
	case d.Op.Kind <= api.Swap:
		return p.lookOf(d, own), 1, true
	case d.Op.Kind == api.Snapshot:
		return p.turnOf(d, own), 0, true
	}
	return d.Span.From, 1, true
}

// lookOf is when an operation that changed nothing saw what it tells: not ahead of the stamp's reading of a version that it came to.
func (p *points) lookOf(d api.Did, own []int) int {
	for _, i := range slices.Backward(own) {
		if !p.isObject(i) || p.Trace[i].Kind != api.Load {
			continue
		}
		at := p.Steps[i]
		for _, v := range p.versions {
			if v.installed < i && v.addr == p.Trace[i].Got {
				at = max(at, v.read)
			}
		}
		return at
	}
	return d.Span.From
}

// turnOf is when the camera was turned on from the stamp that a Snapshot took.
func (p *points) turnOf(d api.Did, own []int) int {
	for _, i := range slices.Backward(own) {
		if p.Trace[i].Kind != api.Load || p.Trace[i].Addr != clock {
			continue
		}
		for j, a := range p.Trace {
			if a.Kind == api.Cas && a.Ok && a.Addr == clock && a.A == p.Trace[i].Got {
				return p.Steps[j]
			}
		}
	}
	return d.Span.To
}
