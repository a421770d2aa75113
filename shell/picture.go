package shell

import (
	"math"
	"strconv"

	"shutter/api"
	"shutter/dump"
)

// held is all that a handle holds.
func (r *room) held(handle uint64) ([]api.Pair, api.Errno) {
	told := r.whole(api.Op{Kind: api.Range, Handle: handle, Lo: 0, Hi: math.MaxUint64}).Answer()
	return told.Pairs, told.Errno
}

func (r *room) dump(l line) string {
	pairs, errno := r.held(l.numbers[0])
	if errno != api.OK {
		return tellError(errno)
	}
	b, errno := dump.Encode(pairs)
	if errno != api.OK {
		return tellError(errno)
	}
	return hexOf(b)
}

func (r *room) diff(l line) string {
	from, errno := r.held(l.numbers[0])
	if errno != api.OK {
		return tellError(errno)
	}
	to, errno := r.held(l.numbers[1])
	if errno != api.OK {
		return tellError(errno)
	}
	changes, errno := dump.Diff(from, to)
	if errno != api.OK {
		return tellError(errno)
	}
	return row("diff", changes, changeText)
}

func changeText(c dump.Change) string {
	key := decimal(c.Key)
	switch {
	case !c.Had:
		return key + "+" + decimal(c.New)
	case !c.Has:
		return key + "-" + decimal(c.Old)
	}
	return key + ":" + decimal(c.Old) + ">" + decimal(c.New)
}

func (r *room) restore(l line) string {
	pairs, errno, _ := dump.Decode(l.bytes)
	if errno != api.OK {
		return tellError(errno)
	}
	ops, errno := dump.Load(pairs)
	if errno != api.OK {
		return tellError(errno)
	}
	for _, op := range ops {
		if errno := r.whole(op).Answer().Errno; errno != api.OK {
			return tellError(errno)
		}
	}
	return strconv.Itoa(len(ops))
}
