package replay

import (
	"strconv"
	"strings"

	"shutter/api"
)

// The last word of a Cas: whether it was done.
const (
	yesWord = "yes"
	noWord  = "no"
)

// form is how accesses of a kind are written, behind their thread: a word, and the fields that the kind names.
type form struct {
	word    string
	numbers func(a *api.Access) []*uint64 // in the order in which they are written
	ok      bool                          // behind them it says whether it was done
	values  bool                          // behind them stand its Values, any number of them
}

// formTable has the form of each kind at its number.
type formTable [api.Alloc + 1]form

func forms() *formTable {
	return &formTable{
		api.Load:  {word: "load", numbers: func(a *api.Access) []*uint64 { return []*uint64{&a.Addr, &a.Got} }},
		api.Store: {word: "store", numbers: func(a *api.Access) []*uint64 { return []*uint64{&a.Addr, &a.A} }},
		api.Cas:   {word: "cas", numbers: func(a *api.Access) []*uint64 { return []*uint64{&a.Addr, &a.A, &a.B} }, ok: true},
		api.Add:   {word: "add", numbers: func(a *api.Access) []*uint64 { return []*uint64{&a.Addr, &a.A, &a.Got} }},
		api.Alloc: {word: "alloc", numbers: func(a *api.Access) []*uint64 { return []*uint64{&a.Addr} }, values: true},
	}
}

// firstWrong is the number of the first access that is not right; how many there are, if all are.
func (t *formTable) firstWrong(l []api.Access) int {
	for i, a := range l {
		if !t.right(a) {
			return i
		}
	}
	return len(l)
}

// right tells whether an access has a kind, and nothing in the fields that its text does not name.
func (t *formTable) right(a api.Access) bool {
	if a.Kind < api.Load || a.Kind > api.Alloc {
		return false
	}
	// This access is a copy: what is left of it without the fields that are named has to be nothing.
	f := &t[a.Kind]
	for _, n := range f.numbers(&a) {
		*n = 0
	}
	if f.ok {
		a.Ok = false
	}
	if f.values {
		a.Values = nil
	}
	return a.Addr|a.A|a.B|a.Got == 0 && !a.Ok && len(a.Values) == 0
}

// print is the text of a right access.
func (t *formTable) print(a api.Access) string {
	f := &t[a.Kind]
	parts := []string{strconv.Itoa(a.Thread), f.word}
	for _, n := range f.numbers(&a) {
		parts = append(parts, decimal(*n))
	}
	if f.ok {
		parts = append(parts, okWord(a.Ok))
	}
	for _, value := range a.Values {
		parts = append(parts, decimal(value))
	}
	return strings.Join(parts, " ")
}

// parse is the access with a text, and whether there is one.
func (t *formTable) parse(text string) (api.Access, bool) {
	parts := strings.Split(text, " ")
	if len(parts) < 2 {
		return api.Access{}, false
	}
	thread, ok := integer(parts[0])
	if !ok {
		return api.Access{}, false
	}
	kind, ok := t.kindOf(parts[1])
	if !ok {
		return api.Access{}, false
	}
	a := api.Access{Thread: thread, Kind: kind}
	if !t[kind].fill(&a, parts[2:]) {
		return api.Access{}, false
	}
	return a, true
}

// kindOf is the kind with a word, and whether there is one.
func (t *formTable) kindOf(word string) (api.AccessKind, bool) {
	for kind := api.Load; kind <= api.Alloc; kind++ {
		if t[kind].word == word {
			return kind, true
		}
	}
	return 0, false
}

// fill gives the parts behind the word to the fields of an access, and tells whether they are those of one.
func (f *form) fill(a *api.Access, parts []string) bool {
	named := f.numbers(a)
	if len(parts) < len(named) {
		return false
	}
	for i, field := range named {
		n, ok := natural(parts[i])
		if !ok {
			return false
		}
		*field = n
	}
	rest := parts[len(named):]
	switch {
	case f.ok:
		return readOk(a, rest)
	case f.values:
		return readValues(a, rest)
	}
	return len(rest) == 0
}

func readOk(a *api.Access, parts []string) bool {
	if len(parts) != 1 {
		return false
	}
	a.Ok = parts[0] == yesWord
	return parts[0] == okWord(a.Ok)
}

func readValues(a *api.Access, parts []string) bool {
	for _, part := range parts {
		n, ok := natural(part)
		if !ok {
			return false
		}
		a.Values = append(a.Values, n)
	}
	return true
}

func okWord(ok bool) string {
	if ok {
		return yesWord
	}
	return noWord
}

// natural is a number without sign, in the one form in which it is written.
func natural(part string) (uint64, bool) {
	n, err := strconv.ParseUint(part, 10, 64)
	return n, err == nil && decimal(n) == part
}

// integer is one that may be below 0, in the one form in which it is written.
func integer(part string) (int, bool) {
	n, err := strconv.Atoi(part)
	return n, err == nil && strconv.Itoa(n) == part
}

func decimal(n uint64) string {
	return strconv.FormatUint(n, 10)
}
