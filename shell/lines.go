package shell

import (
	"iter"
	"strconv"
	"strings"

	"shutter/api"
	"shutter/script"
)

// What ends a line, what stands between words, and what a first word begins with whose line is passed over.
const (
	lineEnd    = "\n"
	blank      = " "
	remarkMark = "#"
)

const (
	maxName    = 8
	numberBits = 63 // a number is below 2^63: so an int holds it, too
	hexDigits  = "0123456789abcdef"
)

// lines ranges over the words of each line that is not passed over.
func lines(text string) iter.Seq[[]string] {
	return func(yield func([]string) bool) {
		for rest := text; rest != ""; {
			var one string
			one, rest, _ = strings.Cut(rest, lineEnd)
			words := wordsOf(one)
			if len(words) == 0 || strings.HasPrefix(words[0], remarkMark) {
				continue
			}
			if !yield(words) {
				return
			}
		}
	}
}

// wordsOf cuts at blanks alone: other bytes that look empty are a word's.
func wordsOf(text string) []string {
	var words []string
	for word := range strings.SplitSeq(text, blank) {
		if word != "" {
			words = append(words, word)
		}
	}
	return words
}

// line is what a line says behind its first word.
type line struct {
	name    string
	thread  uint64
	numbers []uint64
	bytes   []byte
	words   []string // of an operation, or of an outcome
}

// part takes a word for a line, and tells whether it is such a one as stands there.
type part func(l *line, word string) bool

func (l *line) takeName(word string) bool {
	if len(word) > maxName {
		return false
	}
	for _, c := range []byte(word) {
		if c < 'a' || c > 'z' {
			return false
		}
	}
	l.name = word
	return true
}

func (l *line) takeThread(word string) bool {
	n, ok := natural(word)
	l.thread = n
	return ok
}

func (l *line) takeNumber(word string) bool {
	n, ok := natural(word)
	l.numbers = append(l.numbers, n)
	return ok
}

func (l *line) takeBytes(word string) bool {
	if len(word)%2 != 0 {
		return false
	}
	for i := 0; i < len(word); i += 2 {
		high, low := strings.IndexByte(hexDigits, word[i]), strings.IndexByte(hexDigits, word[i+1])
		if high < 0 || low < 0 {
			return false
		}
		l.bytes = append(l.bytes, byte(high<<4|low))
	}
	return true
}

func (l *line) takeWord(word string) bool {
	l.words = append(l.words, word)
	return true
}

// natural is a number, in the one form in which it is written.
func natural(word string) (uint64, bool) {
	n, err := strconv.ParseUint(word, 10, numberBits)
	return n, err == nil && decimal(n) == word
}

// text is the line's words as one text.
func (l line) text() string {
	return strings.Join(l.words, blank)
}

// op is the operation that the line's words say, and whether they say one.
func (l line) op() (api.Op, bool) {
	op, errno := script.ParseOp(l.text())
	return op, errno == api.OK
}

// picks are the line's numbers, which are threads.
func (l line) picks() []int {
	var picks []int
	for _, n := range l.numbers {
		picks = append(picks, int(n))
	}
	return picks
}
