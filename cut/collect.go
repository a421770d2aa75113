package cut

import (
	"shutter/announce"
	"shutter/api"
	"shutter/arena"
	"shutter/vcas"
	"shutter/word"
)

// What a Collect does next.
const (
	collectScan place = iota
	collectCut
	collectEnd
)

// rest is what is still to be gone through of a branch: its objects from a digit on.
type rest struct {
	branch uint64
	digit  uint64
}

// Collect is a proc that does so with all objects of a trie.
type Collect struct {
	root  uint64
	next  place
	scan  *announce.Scan
	need  api.Need
	cut   Cut    // of the object whose turn it is
	left  []rest // a stack: each branch lies on top of the one that it lies in
	count uint64
}

// NewCollect is one that has not begun.
func NewCollect(t api.Tree, s api.Slots) *Collect {
	return &Collect{root: t.Root, scan: announce.NewScan(s)}
}

// Step does it.
func (p *Collect) Step(v *arena.View) bool {
	if p == nil {
		return true
	}
	switch p.next {
	case collectScan:
		if p.scan.Step(v) {
			p.need = p.scan.Need()
			p.lay(p.root)
			p.goOn()
		}
	case collectCut:
		if p.cut.Step(v) {
			p.count += p.cut.Count()
			p.enter(p.cut.Head())
			p.goOn()
		}
	}
	return p.next == collectEnd
}

// lay lays a branch on the stack.
func (p *Collect) lay(branch uint64) {
	p.left = append(p.left, rest{branch: branch})
}

// enter lays what lies in an object on the stack, if that is a branch, and not too deep: the stack has as many branches as lie above the object.
func (p *Collect) enter(w uint64) {
	if kind, addr := word.Split(w); kind == api.Branch && len(p.left) < api.Levels {
		p.lay(addr)
	}
}

// goOn goes on with the next object, or comes to the end, if there is none.
func (p *Collect) goOn() {
	p.next = collectEnd
search:
	for len(p.left) > 0 {
		last := len(p.left) - 1
		switch top := &p.left[last]; top.digit {
		case api.Fan:
			// No room stays behind the end: what was gone through is not to be found there again.
			p.left = p.left[:last:last]
		default:
			p.cut = cutOf(top.branch+top.digit, p.need)
			top.digit++
			p.next = collectCut
			break search
		}
	}
}

// Count is how many it took out.
func (p *Collect) Count() uint64 {
	if p == nil || p.next != collectEnd {
		return 0
	}
	return p.count
}

// Kept is how many versions each object of a trie has, at most; no access.
func Kept(m *arena.Memory, t api.Tree) int {
	most := 0
	left := []uint64{t.Root}
	seen := map[uint64]struct{}{}
	for len(left) > 0 {
		last := len(left) - 1
		branch := left[last]
		left = left[:last]
		// A branch may lie in more than one object, or in itself, where no trie was made.
		if _, known := seen[branch]; known {
			continue
		}
		seen[branch] = struct{}{}
		for digit := range uint64(api.Fan) {
			l := vcas.Versions(m, branch+digit)
			most = max(most, len(l))
			if child, ok := newestBranch(l); ok {
				left = append(left, child)
			}
		}
	}
	return most
}

// newestBranch is the branch that is the newest value, and whether that is one.
func newestBranch(l []api.Version) (uint64, bool) {
	if len(l) == 0 {
		return 0, false
	}
	kind, addr := word.Split(l[0].Value)
	return addr, kind == api.Branch
}
