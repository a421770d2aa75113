package order_test

import (
	"iter"
	"math/rand"
	"reflect"
	"testing"

	"shutter/api"
	"shutter/arena"
	"shutter/camera"
	"shutter/order"
	"shutter/step"
	"shutter/vcas"
)

// spoken is a proc as the chapter says it: plain code, line by line, that stands still ahead of each access but the first one. It notes by which accesses it does what it does, as numbers of the trace.
type spoken struct {
	told   told
	memory *arena.Memory
	tree   api.Tree
	view   *arena.View
	begun  bool
	pause  func(struct{}) bool
	next   func() (struct{}, bool)

	x, node uint64 // of the node that was made

	read   int   // the Load of the last READ of o
	out    swing // by which it took a node out behind that
	change swing // the CAS of the change that it makes
}

// swing is a CAS of an object; its object is 0, if there is none.
type swing struct {
	from   int // its first access
	object uint64
}

// speak is a proc that does what a function does.
func speak(t *testing.T, m *arena.Memory, tree api.Tree, body func(s *spoken) told) *spoken {
	s := &spoken{memory: m, tree: tree}
	next, stop := iter.Pull(func(yield func(struct{}) bool) {
		defer func() { recover() }() // from the panic of one that is stopped
		s.pause = yield
		s.told = body(s)
	})
	s.next = next
	t.Cleanup(stop)
	return s
}

func (s *spoken) Step(v *arena.View) bool {
	s.view = v
	_, more := s.next()
	return !more
}

// turn is the view of the step that the next access belongs to.
func (s *spoken) turn() *arena.View {
	if s.begun && !s.pause(struct{}{}) {
		panic("stopped")
	}
	s.begun = true
	return s.view
}

func (s *spoken) load(addr uint64) uint64       { return s.turn().Load(addr) }
func (s *spoken) alloc(values ...uint64) uint64 { return s.turn().Alloc(values) }

// do does a proc of a layer below, in as many steps as that takes, and tells its first access.
func (s *spoken) do(p step.Proc) int {
	v := s.turn()
	first := s.memory.Made()
	for !p.Step(v) {
		v = s.turn()
	}
	return first
}

func (s *spoken) readObject(object uint64) (uint64, int) {
	p := vcas.NewRead(s.tree.Camera, object)
	first := s.do(p)
	return p.Value(), first
}

func (s *spoken) at(object, stamp uint64) uint64 {
	p := vcas.NewAt(s.tree.Camera, object, stamp)
	s.do(p)
	return p.Value()
}

func (s *spoken) cas(object, old, now uint64) (bool, swing, api.Errno) {
	p := vcas.NewCas(s.tree.Camera, object, old, now)
	first := s.do(p)
	return p.Done(), swing{first, object}, p.Errno()
}

// changing does the CAS of a change; that is noted ahead of its first access, for one that never comes to its end.
func (s *spoken) changing(object, old, now uint64) (bool, api.Errno) {
	p := vcas.NewCas(s.tree.Camera, object, old, now)
	v := s.turn()
	s.change = swing{s.memory.Made(), object}
	for !p.Step(v) {
		v = s.turn()
	}
	return p.Done(), p.Errno()
}

// spot is where a search ends.
type spot struct {
	o, w, p, pk, a, k, n uint64
}

// find finds a key, or the end of the list; false: there was no room.
func (s *spoken) find(key uint64, toEnd bool) (spot, bool) {
anew:
	for {
		e := spot{o: s.tree.Root}
		e.w, s.read = s.readObject(e.o)
		s.out = swing{}
		for {
			e.a = e.w / 2
			if e.a == 0 {
				return e, true
			}
			n, read := s.readObject(e.a + 2)
			if n%2 == 1 {
				done, out, errno := s.cas(e.o, e.w, n-1)
				if errno != api.OK {
					return e, false
				}
				if !done {
					continue anew
				}
				e.w, s.out = n-1, out
				continue
			}
			e.k, e.n = s.load(e.a), n
			if !toEnd && e.k >= key {
				return e, true
			}
			e.p, e.pk, e.o, e.w = e.a, e.k, e.a+2, n
			s.read, s.out = read, swing{}
		}
	}
}

// make makes the node, or lets it have another link; false: there was no room.
func (s *spoken) make(key, value, link uint64) bool {
	if s.node != 0 {
		s.turn().Store(s.x, link)
		return true
	}
	if s.x = s.alloc(link, 1, 0); s.x == 0 {
		return false
	}
	s.node = s.alloc(key, value, s.x)
	return s.node != 0
}

func opWords(s *spoken, op api.Op) api.Answer {
	if op.Kind < api.Get || op.Kind > api.Swap {
		return failed(api.ErrOp)
	}
	for {
		e, room := s.find(op.Key, false)
		if !room {
			return failed(api.ErrMemory)
		}
		answer, done, errno := changeWords(s, op, e)
		if errno != api.OK {
			return failed(errno)
		}
		if done {
			return answer
		}
	}
}

// changeWords is what an operation does where a search ended; false: it has to find the key anew.
func changeWords(s *spoken, op api.Op, e spot) (api.Answer, bool, api.Errno) {
	if e.a == 0 || e.k != op.Key {
		if op.Kind != api.Put {
			return api.Answer{}, true, api.OK
		}
		if !s.make(op.Key, op.Value, e.w) {
			return api.Answer{}, false, api.ErrMemory
		}
		done, errno := s.changing(e.o, e.w, 2*s.node)
		return api.Answer{}, done, errno
	}
	answer := found(s.load(e.a + 1))
	switch op.Kind {
	case api.Get:
		return answer, true, api.OK
	case api.Delete:
		done, errno := s.changing(e.a+2, e.n, e.n+1)
		return answer, done, errno
	case api.Swap:
		if answer.Value != op.Old {
			return answer, true, api.OK
		}
		answer.Done = true
	}
	if !s.make(op.Key, op.Value, e.n) {
		return api.Answer{}, false, api.ErrMemory
	}
	done, errno := s.changing(e.a+2, e.n, 2*s.node+1)
	return answer, done, errno
}

func seekWords(s *spoken, way order.Way, key uint64) told {
	behind := way == order.After || way == order.First
	switch way {
	case order.After:
		if key == greatest {
			return told{}
		}
		key++
	case order.First:
		key = 0
	case order.Before, order.Last:
	default:
		return told{}
	}
	e, room := s.find(key, way == order.Last)
	switch {
	case !room:
		return told{errno: api.ErrMemory}
	case behind && e.a != 0:
		return ofPair(e.k, s.load(e.a+1))
	case !behind && e.p != 0:
		return ofPair(e.pk, s.load(e.p+1))
	}
	return told{}
}

func rowsWords(s *spoken, stamp, from uint64, most int) told {
	var l []api.Pair
	if most < 1 {
		s.turn() // a step without an access
		return told{}
	}
	w := s.at(s.tree.Root, stamp)
	for w/2 != 0 {
		a := w / 2
		n := s.at(a+2, stamp)
		if n%2 == 1 {
			w = n - 1
			continue
		}
		if k := s.load(a); k >= from {
			l = append(l, api.Pair{Key: k, Value: s.load(a + 1)})
			if len(l) == most {
				break
			}
		}
		w = n
	}
	return told{pairs: l}
}

func rankWords(s *spoken, stamp, key uint64) told {
	count := 0
	w := s.at(s.tree.Root, stamp)
	for w/2 != 0 {
		a := w / 2
		n := s.at(a+2, stamp)
		if n%2 == 1 {
			w = n - 1
			continue
		}
		if s.load(a) >= key {
			break
		}
		count++
		w = n
	}
	return told{count: count}
}

// kind is a kind of calls.
type kind int

const (
	doOp kind = iota
	doSeek
	doTake
	doRows
	doRank
)

// call is something that a thread does on a list. Rows and Ranks take a picture first, and ask for one that is so much older, or for that, if it is the first.
type call struct {
	kind kind
	op   api.Op
	way  order.Way
	key  uint64 // of a Seek, of Rows, of a Rank
	most int    // of Rows
	back uint64
}

// proc is the call by the package's procs.
func (c call) proc(tree api.Tree) step.Proc {
	switch c.kind {
	case doOp:
		return order.NewOp(tree, c.op)
	case doSeek:
		return order.NewSeek(tree, c.way, c.key)
	}
	return &look{call: c, tree: tree, take: camera.NewTake(tree.Camera, 1<<40)}
}

// look is a proc that takes a picture, and goes through one.
type look struct {
	call
	tree api.Tree
	take *camera.Take
	proc step.Proc
}

func (p *look) Step(v *arena.View) bool {
	if p.proc != nil {
		return p.proc.Step(v)
	}
	if !p.take.Step(v) {
		return false
	}
	switch stamp := p.stamp(p.take.Stamp()); p.kind {
	case doRows:
		p.proc = order.NewRows(p.tree, stamp, p.key, p.most)
	case doRank:
		p.proc = order.NewRank(p.tree, stamp, p.key)
	default:
		return true
	}
	return false
}

// stamp is the stamp that is asked for, by the one that was taken.
func (c call) stamp(taken uint64) uint64 {
	return taken - min(c.back, max(taken, 1)-1)
}

// words is the call as the chapter says it.
func (c call) words(t *testing.T, m *arena.Memory, tree api.Tree) *spoken {
	return speak(t, m, tree, func(s *spoken) told {
		switch c.kind {
		case doOp:
			return told{answer: opWords(s, c.op)}
		case doSeek:
			return seekWords(s, c.way, c.key)
		}
		take := camera.NewTake(tree.Camera, 1<<40)
		s.do(take)
		switch stamp := c.stamp(take.Stamp()); c.kind {
		case doRows:
			return rowsWords(s, stamp, c.key, c.most)
		case doRank:
			return rankWords(s, stamp, c.key)
		}
		return told{}
	})
}

// toldBy is what a call's proc tells.
func toldBy(p step.Proc) told {
	if x, ok := p.(*look); ok {
		return toldOf(x.proc)
	}
	return toldOf(p)
}

func drawCall(r *rand.Rand, keys uint64) call {
	key := 1 + r.Uint64()%keys
	value := uint64(r.Intn(3))
	switch r.Intn(16) {
	case 0:
		return call{kind: doTake}
	case 1:
		return call{kind: doRows, key: key - 1, most: 1 + r.Intn(6), back: uint64(r.Intn(3))}
	case 2:
		return call{kind: doRank, key: key + 1, back: uint64(r.Intn(3))}
	case 3, 4, 5:
		return call{kind: doSeek, way: order.Way(1 + r.Intn(4)), key: key}
	case 6, 7:
		return call{op: getOp(key)}
	case 8, 9, 10:
		return call{op: deleteOp(key)}
	case 11, 12, 13:
		return call{op: swapOp(key, value/2, value)}
	}
	return call{op: putOp(key, value)}
}

// drawWrongCall is one of all that may be asked for, right or wrong.
func drawWrongCall(r *rand.Rand) call {
	if r.Intn(5) > 0 {
		return drawCall(r, 4)
	}
	keys := []uint64{0, 1, greatest - 1, greatest}
	key := keys[r.Intn(len(keys))]
	switch r.Intn(4) {
	case 0:
		return call{op: api.Op{Kind: api.OpKind(r.Intn(12)), Key: key}}
	case 1:
		return call{kind: doSeek, way: order.Way(r.Intn(7)), key: key}
	case 2:
		return call{kind: doRank, key: key, back: 5}
	}
	return call{kind: doRows, key: key, most: r.Intn(4) - 1}
}

// drawMemory has cells that hold addresses, links, keys, so that lists run into one another, come back, and lead out.
func drawMemory(t *testing.T, r *rand.Rand) *arena.Memory {
	t.Helper()
	m, errno := arena.New(500, false)
	if errno != api.OK {
		t.Fatal(errno)
	}
	v := m.View(9)
	cells := 6 + r.Intn(24)
	v.Alloc(make([]uint64, cells))
	for addr := range uint64(cells + 1) {
		v.Store(addr, drawNumber(r, cells))
	}
	if r.Intn(3) == 0 {
		v.Alloc(make([]uint64, m.Left()-r.Intn(60)))
	}
	return m
}

func drawNumber(r *rand.Rand, cells int) uint64 {
	addr := uint64(1 + r.Intn(cells))
	switch r.Intn(10) {
	case 0, 1:
		return 0
	case 2:
		return uint64(1 + r.Intn(4))
	case 3, 4:
		return 2 * addr
	case 5, 6:
		return 2*addr + 1
	case 7:
		return -uint64(1 + r.Intn(4))
	}
	return addr
}

// wrongList has nodes in any order, some of them deleted, and maybe leads back to one of them.
func wrongList(t *testing.T, r *rand.Rand) *arena.Memory {
	t.Helper()
	m := newList(t, 600)
	var keys []uint64
	for range 1 + r.Intn(6) {
		keys = append(keys, uint64(r.Intn(6)))
	}
	l := layNodes(m, keys...)
	for i, node := range l {
		next := uint64(0)
		if i+1 < len(l) {
			next = 2 * l[i+1]
		}
		if r.Intn(3) == 0 {
			layLink(m, node+2, next+1)
		}
	}
	if r.Intn(3) == 0 {
		layLink(m, l[len(l)-1]+2, 2*l[r.Intn(len(l))]+uint64(r.Intn(2)))
	}
	return m
}

// P30.1: by any threads and picks, on whatever memory, a proc makes the accesses that the chapter says, in the same steps, and tells the same.
func TestAsTheChapterSays(t *testing.T) {
	kinds := map[string]int{}
	for seed := range int64(4500) {
		r := rand.New(rand.NewSource(seed))
		m, tree := newList(t, 3000), list
		switch seed % 3 {
		case 0:
			for range r.Intn(6) {
				do(t, m, putOp(1+r.Uint64()%4, uint64(r.Intn(2))))
			}
			if r.Intn(3) == 0 {
				fill(m, r.Intn(60))
			}
		case 1:
			m = wrongList(t, r)
		default:
			m, tree = drawMemory(t, r), api.Tree{Camera: uint64(r.Intn(4)), Root: uint64(r.Intn(8))}
		}
		sameSteps(t, r, m, tree, kinds)
	}
	for _, kind := range []string{"", "found", "done", "30", "160", "pair", "pairs", "count"} {
		if kinds[kind] < 100 {
			t.Error("too little has come up:", kind, kinds)
		}
	}
}

// sameSteps lets procs, and the same as the chapter says them, go by the same picks, each on a memory of their own.
func sameSteps(t *testing.T, r *rand.Rand, first *arena.Memory, tree api.Tree, kinds map[string]int) {
	t.Helper()
	m, n := first.Fork(), first.Fork()
	threads := 1 + r.Intn(4)
	procs, words := make([][]step.Proc, threads), make([][]step.Proc, threads)
	for i := range threads {
		for range 1 + r.Intn(3) {
			c := drawWrongCall(r)
			procs[i] = append(procs[i], c.proc(tree))
			words[i] = append(words[i], c.words(t, n, tree))
		}
	}
	a, _ := step.New(m, procs)
	b, _ := step.New(n, words)
	for range 50 + r.Intn(200) {
		thread := r.Intn(threads)
		if a.Pick(thread) != b.Pick(thread) {
			t.Fatal("one of the two is done")
		}
		for j, p := range procs[thread] {
			if got, want := toldBy(p), words[thread][j].(*spoken).told; !reflect.DeepEqual(got, want) {
				t.Fatalf("%T tells %+v, not %+v", p, got, want)
			}
		}
	}
	if !reflect.DeepEqual(m.Trace(), n.Trace()) || !reflect.DeepEqual(a.Events(), b.Events()) {
		t.Fatalf("%s\nnot: %s", made(m, 0), made(n, 0))
	}
	for _, event := range a.Events() {
		if event.Return {
			kinds[kindOf(toldBy(procs[event.Thread][event.Index]))]++
		}
	}
}

func kindOf(o told) string {
	switch {
	case o.answer.Errno == api.ErrMemory || o.errno == api.ErrMemory:
		return "30"
	case o.answer.Errno == api.ErrOp:
		return "160"
	case o.answer.Done:
		return "done"
	case o.answer.Found:
		return "found"
	case o.known:
		return "pair"
	case len(o.pairs) > 0:
		return "pairs"
	case o.count > 0:
		return "count"
	}
	return ""
}
