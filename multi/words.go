package multi

// What the lowest two bits of a cell's word say; of all others it is a value's.
const (
	lockKind = 1 + iota
	planKind
)

// How many bits these are, and the first value that has no word.
const (
	kindBits = 2
	kindMask = 1<<kindBits - 1
	tooGreat = 1 << (64 - kindBits)
)

// What a plan's record has: its state, how many entries, and these.
const (
	stateAt = iota
	countAt
	entriesAt
)

// What an entry of a plan has.
const (
	cellAt = iota
	awaitedAt
	heldAt
	entryLength
)

// What a lock's record has.
const (
	lockPlanAt = iota
	lockCellAt
	lockAwaitedAt
	lockHeldAt
)

// States of plans.
const (
	planOpen = iota
	planDone
	planNotDone
	planNoMemory
)

func wordOf(value uint64) uint64 { return value << kindBits }

func lockWord(addr uint64) uint64 { return addr<<kindBits | lockKind }

func planWord(addr uint64) uint64 { return addr<<kindBits | planKind }

func isLock(word uint64) bool { return word&kindMask == lockKind }

func isPlan(word uint64) bool { return word&kindMask == planKind }

// content is the value of a word, or the address of its lock or plan.
func content(word uint64) uint64 { return word >> kindBits }
