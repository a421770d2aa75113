package explore

import (
	"iter"

	"shutter/api"
)

// markKind is a kind of marks.
type markKind int

const (
	ofCell   markKind = iota // an access of the cell, which is no Alloc
	ofAlloc                  // an Alloc
	ofThread                 // a step of the thread
	naming                   // a call begins that names one of the thread
)

// mark is something about a step by which others may clash with it.
type mark struct {
	kind   markKind
	number uint64
}

// index has the numbers of a row's steps by their marks, so that a long row need not be gone through for those that clash with a move.
type index map[mark][]int

func (x index) add(number int, m move) {
	for k := range m.marks {
		x[k] = append(x[k], number)
	}
}

// remove takes the last step out.
func (x index) remove(m move) {
	for k := range m.marks {
		x[k] = x[k][:len(x[k])-1]
	}
}

// near ranges over the numbers of all steps that may clash with a move.
func (x index) near(m move) iter.Seq[int] {
	return func(yield func(int) bool) {
		for k := range m.looksFor {
			for _, number := range x[k] {
				if !yield(number) {
					return
				}
			}
		}
	}
}

// accessMark ranges over the mark that a move's access has, if it makes one; such as have it in common may clash.
func (m move) accessMark(yield func(mark) bool) bool {
	switch m.access.Kind {
	case 0:
		return true
	case api.Alloc:
		return yield(mark{kind: ofAlloc})
	}
	return yield(mark{ofCell, m.access.Addr})
}

// marks ranges over the marks that a move has.
func (m move) marks(yield func(mark) bool) {
	if m.accessMark(yield) && yield(mark{ofThread, uint64(m.thread)}) && m.ref.Set {
		yield(mark{naming, uint64(m.ref.Thread)})
	}
}

// looksFor ranges over the marks of moves that may clash with this one.
func (m move) looksFor(yield func(mark) bool) {
	if m.accessMark(yield) && yield(mark{naming, uint64(m.thread)}) && m.ref.Set {
		yield(mark{ofThread, uint64(m.ref.Thread)})
	}
}
