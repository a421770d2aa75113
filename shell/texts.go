package shell

import (
	"strconv"
	"strings"

	"shutter/api"
)

// Errors that are texts of their own.
const (
	noLine   = "word"
	noStore  = "none"
	noThread = "range"
	isBusy   = "busy"
	isIdle   = "idle"
	noOp     = "op"
	tooLong  = "long"
)

// Answers, and what some begin with.
const (
	tellOK    = "ok"
	tellStep  = "step"
	tellDone  = "done "
	tellNone  = "none"
	tellFault = "error "
)

func tellError(errno api.Errno) string {
	return tellFault + strconv.Itoa(int(errno))
}

// row is a word, and behind it each thing of a list, with a blank ahead.
func row[T any](word string, l []T, text func(T) string) string {
	parts := []string{word}
	for _, thing := range l {
		parts = append(parts, text(thing))
	}
	return strings.Join(parts, blank)
}

func pairText(p api.Pair) string {
	return decimal(p.Key) + ":" + decimal(p.Value)
}

func decimal(n uint64) string {
	return strconv.FormatUint(n, 10)
}

// hexOf is bytes by two digits each.
func hexOf(l []byte) string {
	var text strings.Builder
	for _, b := range l {
		text.WriteByte(hexDigits[b>>4])
		text.WriteByte(hexDigits[b&15])
	}
	return text.String()
}
