package vcas

import (
	"shutter/arena"
	"shutter/camera"
)

// What a stamper does next.
const (
	tellLoad place = iota
	tellNow
	tellCas
	tellEnd
)

// stamper sees to a version's stamp; all procs of this package have one inside them.
type stamper struct {
	camera  uint64
	version uint64
	telling place
	clock   *camera.Now
}

// aim lets it begin with a version.
func (p *stamper) aim(version uint64) {
	p.version = version
	p.telling = tellLoad
}

// tell takes a step; true: the version has its stamp.
func (p *stamper) tell(v *arena.View) bool {
	switch p.telling {
	case tellLoad:
		p.telling = tellEnd
		if v.Load(p.version+stampAt) == 0 {
			p.clock = camera.NewNow(p.camera)
			p.telling = tellNow
		}
	case tellNow:
		if p.clock.Step(v) {
			p.telling = tellCas
		}
	case tellCas:
		// Where another one was ahead, its stamp stays.
		v.Cas(p.version+stampAt, 0, p.clock.Stamp())
		p.telling = tellEnd
	}
	return p.telling == tellEnd
}

// What a finder does next.
const (
	findLoad place = iota
	findTell
	findEnd
)

// finder finds an object's newest version, and sees to its stamp.
type finder struct {
	stamper
	object  uint64
	finding place
	head    uint64 // the version; 0: there is none
}

func newFinder(camera, object uint64) finder {
	return finder{stamper: stamper{camera: camera}, object: object}
}

// find takes a step; true: the version is found.
func (p *finder) find(v *arena.View) bool {
	switch p.finding {
	case findLoad:
		p.head = v.Load(p.object)
		p.aim(p.head)
		p.finding = findTell
		if p.head == 0 {
			p.finding = findEnd
		}
	case findTell:
		if p.tell(v) {
			p.finding = findEnd
		}
	}
	return p.finding == findEnd
}

// What a reader does next.
const (
	readFind place = iota
	readLoad
	readEnd
)

// reader reads an object's value.
type reader struct {
	finder
	reading place
	value   uint64
}

func newReader(camera, object uint64) reader {
	return reader{finder: newFinder(camera, object)}
}

// read takes a step; true: the value is read.
func (p *reader) read(v *arena.View) bool {
	switch p.reading {
	case readFind:
		if p.find(v) {
			p.reading = readLoad
			if p.head == 0 {
				p.reading = readEnd
			}
		}
	case readLoad:
		p.value = v.Load(p.head)
		p.reading = readEnd
	}
	return p.reading == readEnd
}
