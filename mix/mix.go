// Package mix mixes keys, and back. See ../../shared/doc/02-mix.md.
package mix

import (
	"iter"
	"math/bits"

	"shutter/api"
)

// The numbers of mixing, in the order in which they are used.
const (
	shift1  = 30
	factor1 = 0xbf58476d1ce4e5b9
	shift2  = 27
	factor2 = 0x94d049bb133111eb
	shift3  = 31
)

// The numbers of mixing back: a factor times its inverse is 1, modulo 2^64.
const (
	inverse1 = 0x96de1b173f119089
	inverse2 = 0x319642b2d24d8ec3
)

// What the digits of a mixed key are made of; at the last level there is what the full digits leave over.
const (
	keyBits   = 64
	digitBits = 6
	lastLevel = api.Levels - 1
	lastBits  = keyBits - lastLevel*digitBits
)

// Mix is a key, mixed.
func Mix(key uint64) uint64 {
	x := fold(key, shift1) * factor1
	x = fold(x, shift2) * factor2
	return fold(x, shift3)
}

// Back is the key of what was mixed.
func Back(h uint64) uint64 {
	x := unfold(h, shift3) * inverse2
	x = unfold(x, shift2) * inverse1
	return unfold(x, shift1)
}

func fold(x uint64, shift int) uint64 {
	return x ^ x>>shift
}

// unfold undoes fold; two terms are enough, as all the shifts, three times, go beyond 64 bits.
func unfold(x uint64, shift int) uint64 {
	return x ^ x>>shift ^ x>>(2*shift)
}

// Digit is a mixed key's digit at a level.
func Digit(h uint64, level int) int {
	if level < 0 || level > lastLevel {
		return 0
	}
	low, top := place(level)
	return int(h >> low & uint64(top))
}

// place is where the digit of a level has its lowest bit, and the greatest digit that the level has.
func place(level int) (low, top int) {
	if level == lastLevel {
		return 0, 1<<lastBits - 1
	}
	return keyBits - digitBits*(level+1), 1<<digitBits - 1
}

// Digits are all of them.
func Digits(h uint64) []int {
	l := make([]int, 0, api.Levels)
	for _, digit := range levels(h) {
		l = append(l, digit)
	}
	return l
}

// levels goes through the levels of a mixed key, each with its digit, from the level 0 on.
func levels(h uint64) iter.Seq2[int, int] {
	return func(yield func(int, int) bool) {
		for level := range api.Levels {
			if !yield(level, Digit(h, level)) {
				return
			}
		}
	}
}

// Join is the mixed key of digits.
func Join(l []int) (uint64, bool) {
	if len(l) != api.Levels {
		return 0, false
	}
	var h uint64
	for level, digit := range l {
		low, top := place(level)
		if digit < 0 || digit > top {
			return 0, false
		}
		h |= uint64(digit) << low
	}
	return h, true
}

// Common is how many digits two mixed keys have in common, from the first one on.
func Common(a, b uint64) int {
	for level, digit := range levels(a) {
		if digit != Digit(b, level) {
			return level
		}
	}
	return api.Levels
}

// Turn is a number turned round, bit by bit.
func Turn(v uint64, n int) uint64 {
	return bits.RotateLeft64(v, n)
}

// Ones is how many bits of a number are set.
func Ones(v uint64) int {
	return bits.OnesCount64(v)
}
