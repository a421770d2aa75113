package dump

import (
	"bytes"
	"math"

	"shutter/api"
)

// mark is what each dump begins with.
const mark = "SHU1"

// How a number is written: so many bits a byte, and the bit that says that another byte comes.
const (
	bitsOfByte = 7
	moreComes  = 1 << bitsOfByte
)

// A number's last byte, at its place, has room for one bit alone.
const (
	lastPlace = 9
	lastMost  = 1
)

// What the sum begins with, and what it is multiplied by for each byte.
const (
	sumStart  = 2166136261
	sumFactor = 16777619
)

// sumBytes is how many bytes a sum has.
const sumBytes = 4

func appendNumber(b []byte, n uint64) []byte {
	for ; n >= moreComes; n >>= bitsOfByte {
		b = append(b, byte(n%moreComes)|moreComes)
	}
	return append(b, byte(n))
}

func sumOf(b []byte) uint32 {
	sum := uint32(sumStart)
	for _, c := range b {
		sum = (sum ^ uint32(c)) * sumFactor
	}
	return sum
}

func appendSum(b []byte, sum uint32) []byte {
	for range sumBytes {
		b = append(b, byte(sum))
		sum >>= 8
	}
	return b
}

// reader reads a dump from the left on. Where it tells an error, it stands at the place of that.
type reader struct {
	bytes []byte
	at    int
}

func (r *reader) atEnd() bool {
	return r.at == len(r.bytes)
}

// dump reads all there is.
func (r *reader) dump() ([]api.Pair, api.Errno) {
	if errno := r.mark(); errno != api.OK {
		return nil, errno
	}
	l, errno := r.pairs()
	if errno != api.OK {
		return nil, errno
	}
	if errno := r.sum(); errno != api.OK {
		return nil, errno
	}
	if !r.atEnd() {
		return nil, api.ErrMore
	}
	return l, api.OK
}

func (r *reader) mark() api.Errno {
	for ; r.at < len(mark); r.at++ {
		if r.atEnd() {
			return api.ErrShort
		}
		if r.bytes[r.at] != mark[r.at] {
			return api.ErrBytes
		}
	}
	return api.OK
}

// pairs reads how many there are, and these. The bytes may say a number that they have no room for: so it is not relied on ahead of them.
func (r *reader) pairs() ([]api.Pair, api.Errno) {
	count, errno := r.number()
	if errno != api.OK {
		return nil, errno
	}
	var l []api.Pair
	for uint64(len(l)) < count {
		p, errno := r.pair(l)
		if errno != api.OK {
			return nil, errno
		}
		l = append(l, p)
	}
	return l, api.OK
}

// pair reads the next one behind some.
func (r *reader) pair(ahead []api.Pair) (api.Pair, api.Errno) {
	first := r.at
	key, errno := r.number()
	if errno != api.OK {
		return api.Pair{}, errno
	}
	if len(ahead) > 0 {
		last := ahead[len(ahead)-1].Key
		if key == 0 || key > math.MaxUint64-last {
			r.at = first
			return api.Pair{}, api.ErrBytes
		}
		key += last
	}
	value, errno := r.number()
	if errno != api.OK {
		return api.Pair{}, errno
	}
	return api.Pair{Key: key, Value: value}, api.OK
}

func (r *reader) number() (uint64, api.Errno) {
	n, first, errno := uint64(0), r.at, api.OK
reading:
	for {
		place := r.at - first
		switch {
		case r.atEnd():
			errno = api.ErrShort
			break reading
		case !mayStand(r.bytes[r.at], place):
			errno = api.ErrBytes
			break reading
		}
		c := r.bytes[r.at]
		r.at++
		n |= uint64(c%moreComes) << (bitsOfByte * place)
		if c < moreComes {
			break reading
		}
	}
	return n, errno
}

// mayStand tells whether a byte may stand at its place in a number: a 0 behind others could be left out, and the last place has less room than others.
func mayStand(c byte, place int) bool {
	return (place == 0 || c != 0) && (place < lastPlace || c <= lastMost)
}

func (r *reader) sum() api.Errno {
	left := r.bytes[r.at:]
	if len(left) < sumBytes {
		r.at = len(r.bytes)
		return api.ErrShort
	}
	if !bytes.Equal(left[:sumBytes], appendSum(nil, sumOf(r.bytes[:r.at]))) {
		return api.ErrBytes
	}
	r.at += sumBytes
	return api.OK
}
