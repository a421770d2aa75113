package explore

import "shutter/api"

// Clash tells whether it matters which of two accesses comes first.
func Clash(a, b api.Access) bool {
	if a.Kind == api.Alloc || b.Kind == api.Alloc {
		// An Alloc is of no one cell: that which it hands out is nobody else's till then.
		return a.Kind == b.Kind
	}
	return a.Addr == b.Addr && (writes(a) || writes(b))
}

func writes(a api.Access) bool {
	return a.Kind == api.Store || a.Kind == api.Add || a.Kind == api.Cas && a.Ok
}

// move is a step that a thread has taken, or would take.
type move struct {
	thread int
	access api.Access // of no kind, if it makes none
	ref    api.Ref    // of the operation that begins; not Set, if none begins
}

// clashes tells whether it matters which of two moves of unlike threads comes first.
func (m move) clashes(o move) bool {
	return m.names(o.thread) || o.names(m.thread) ||
		m.makesAccess() && o.makesAccess() && Clash(m.access, o.access)
}

func (m move) makesAccess() bool {
	return m.access.Kind != 0
}

// names tells whether what begins asks what a call of the thread has told by then.
func (m move) names(thread int) bool {
	return m.ref.Set && m.ref.Thread == thread
}
