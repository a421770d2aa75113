// Package word packs what lies in cells. See ../../shared/doc/01-word.md.
package word

import (
	"strconv"
	"strings"

	"shutter/api"
)

// lastAddr is the last address that a leaf or a branch may have in a child's word.
const lastAddr = 1 << 62

// Where the fields of a slot's word begin, and how much of it a field takes.
const (
	genShift   = 2
	stampShift = 22
	kindMask   = 1<<genShift - 1
	genMask    = 1<<(stampShift-genShift) - 1
)

// Where the generation of a handle begins; the slot's number is below.
const (
	handleShift = 16
	placeMask   = 1<<handleShift - 1
)

// kindTexts has the text of each kind of slots at the kind's own number.
var kindTexts = [...]string{
	api.Free:    "free",
	api.Claimed: "claimed",
	api.Early:   "early",
	api.Exact:   "exact",
}

// Child is the word of a leaf, or a branch, at an address.
func Child(kind api.ChildKind, addr uint64) (uint64, api.Errno) {
	if kind == api.Nothing && addr == 0 {
		return 0, api.OK
	}
	if addr == 0 || addr > lastAddr {
		return 0, api.ErrRange
	}
	switch kind {
	case api.Leaf:
		return 2*addr + 1, api.OK
	case api.Branch:
		return 2 * addr, api.OK
	}
	return 0, api.ErrRange
}

// Split tells what such a word says.
func Split(w uint64) (api.ChildKind, uint64) {
	if w == 0 {
		return api.Nothing, 0
	}
	if w%2 == 1 {
		return api.Leaf, w / 2
	}
	return api.Branch, w / 2
}

// Pack is a slot's word.
func Pack(s api.Slot) (uint64, api.Errno) {
	if s.Kind > api.Exact || s.Gen >= api.MaxGen || s.Stamp > api.MaxStamp {
		return 0, api.ErrRange
	}
	return uint64(s.Kind) | s.Gen<<genShift | s.Stamp<<stampShift, api.OK
}

// Unpack tells what it says.
func Unpack(w uint64) api.Slot {
	return api.Slot{
		Kind:  api.SlotKind(w & kindMask),
		Gen:   w >> genShift & genMask,
		Stamp: w >> stampShift,
	}
}

// Handle is the handle of a slot.
func Handle(slot int, gen uint64) (uint64, api.Errno) {
	if slot < 0 || slot >= api.MaxSlots || gen >= api.MaxGen {
		return 0, api.ErrRange
	}
	// One more than the slot's number, so that 0 is nobody's handle.
	return uint64(slot) + 1 | gen<<handleShift, api.OK
}

// Unhandle tells the slot, and the generation, of a handle.
func Unhandle(h uint64) (int, uint64, api.Errno) {
	place, gen := h&placeMask, h>>handleShift
	if place == 0 || place > api.MaxSlots || gen >= api.MaxGen {
		return 0, 0, api.ErrHandle
	}
	return int(place) - 1, gen, api.OK
}

// Print is a word of a slot as a text.
func Print(s api.Slot) string {
	if _, err := Pack(s); err != api.OK {
		return ""
	}
	return kindTexts[s.Kind] + " " + decimal(s.Gen) + " " + decimal(s.Stamp)
}

// Parse reads one.
func Parse(s string) (api.Slot, api.Errno) {
	kindText, numbers, _ := strings.Cut(s, " ")
	genText, stampText, _ := strings.Cut(numbers, " ")
	kind, known := kindOf(kindText)
	gen, genErr := strconv.ParseUint(genText, 10, 64)
	stamp, stampErr := strconv.ParseUint(stampText, 10, 64)
	if !known || genErr != nil || stampErr != nil {
		return api.Slot{}, api.ErrForm
	}
	slot := api.Slot{Kind: kind, Gen: gen, Stamp: stamp}
	// There is one way to write a slot: what it is not printed as (a nought too many, a number too great) is no text of it.
	if Print(slot) != s {
		return api.Slot{}, api.ErrForm
	}
	return slot, api.OK
}

// kindOf is the kind of slots that has the text, and whether there is one.
func kindOf(text string) (api.SlotKind, bool) {
	for kind, known := range kindTexts {
		if text == known {
			return api.SlotKind(kind), true
		}
	}
	return 0, false
}

func decimal(n uint64) string {
	return strconv.FormatUint(n, 10)
}
