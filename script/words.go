package script

import (
	"strconv"
	"strings"

	"shutter/api"
)

// words are those of the kinds of operations, at their numbers.
var words = [...]string{
	api.Get:      "get",
	api.Put:      "put",
	api.Delete:   "delete",
	api.Swap:     "swap",
	api.Snapshot: "snapshot",
	api.Release:  "release",
	api.MultiGet: "multiget",
	api.Range:    "range",
	api.Count:    "count",
	api.Collect:  "collect",
}

// refMark stands in a text ahead of a Ref, which is in the place of a handle; refDot between its two numbers.
const (
	refMark = "@"
	refDot  = "."
)

// wordOf is a kind's word; none, if it is no kind.
func wordOf(kind api.OpKind) string {
	if int(kind) >= len(words) {
		return ""
	}
	return words[kind]
}

// kindOf is the kind with a word, and whether there is one.
func kindOf(word string) (api.OpKind, bool) {
	for kind, w := range words {
		if w == word && w != "" {
			return api.OpKind(kind), true
		}
	}
	return 0, false
}

// fields are those of an operation that its kind names, in the order in which they are written.
type fields struct {
	handle  bool // ahead of all others, as it is or by a Ref
	numbers []*uint64
	keys    bool // behind all others, any number of them
}

// vocabulary says, for each word, which fields an operation of that kind has.
type vocabulary map[string]func(o *api.Op) fields

func newVocabulary() vocabulary {
	none := func(*api.Op) fields { return fields{} }
	key := func(o *api.Op) fields { return fields{numbers: []*uint64{&o.Key}} }
	bounds := func(o *api.Op) fields { return fields{handle: true, numbers: []*uint64{&o.Lo, &o.Hi}} }
	return vocabulary{
		"get":      key,
		"put":      func(o *api.Op) fields { return fields{numbers: []*uint64{&o.Key, &o.Value}} },
		"delete":   key,
		"swap":     func(o *api.Op) fields { return fields{numbers: []*uint64{&o.Key, &o.Old, &o.Value}} },
		"snapshot": none,
		"release":  func(*api.Op) fields { return fields{handle: true} },
		"multiget": func(*api.Op) fields { return fields{handle: true, keys: true} },
		"range":    bounds,
		"count":    bounds,
		"collect":  none,
	}
}

// fieldsOf are an operation's, and whether it has a kind.
func (v vocabulary) fieldsOf(o *api.Op) (fields, bool) {
	say, ok := v[wordOf(o.Kind)]
	if !ok {
		return fields{}, false
	}
	return say(o), true
}

// fault tells what is wrong with an operation, looked at alone.
func (v vocabulary) fault(o api.Op) api.Errno {
	named, ok := v.fieldsOf(&o)
	switch {
	case !ok:
		return api.ErrOp
	case tooManyKeys(o):
		return api.ErrLong
	case named.handle && !rightHandle(o):
		return api.ErrForm
	}
	// This operation is a copy: what is left of it without the fields that its kind names has to be nothing.
	if named.handle {
		o.Handle, o.Ref = 0, api.Ref{}
	}
	for _, n := range named.numbers {
		*n = 0
	}
	if named.keys {
		o.Keys = nil
	}
	if !blank(o) {
		return api.ErrForm
	}
	return api.OK
}

func tooManyKeys(o api.Op) bool {
	return o.Kind == api.MultiGet && len(o.Keys) > api.MaxMulti
}

// rightHandle tells whether an operation names its handle in one way, not in two.
func rightHandle(o api.Op) bool {
	if !o.Ref.Set {
		return o.Ref == api.Ref{}
	}
	return o.Handle == 0 && o.Ref.Thread >= 0 && o.Ref.Index >= 0
}

// blank tells whether an operation has nothing but a kind.
func blank(o api.Op) bool {
	return o.Key|o.Value|o.Old|o.Handle|o.Lo|o.Hi == 0 && o.Ref == api.Ref{} && len(o.Keys) == 0
}

// print is the text of an operation without a fault.
func (v vocabulary) print(o api.Op) string {
	named, _ := v.fieldsOf(&o)
	parts := []string{wordOf(o.Kind)}
	if named.handle {
		parts = append(parts, printHandle(o))
	}
	for _, n := range named.numbers {
		parts = append(parts, decimal(*n))
	}
	if named.keys {
		for _, key := range o.Keys {
			parts = append(parts, decimal(key))
		}
	}
	return strings.Join(parts, " ")
}

func printHandle(o api.Op) string {
	if o.Ref.Set {
		return refMark + strconv.Itoa(o.Ref.Thread) + refDot + strconv.Itoa(o.Ref.Index)
	}
	return decimal(o.Handle)
}

// parse is the operation with a text, and whether there is one.
func (v vocabulary) parse(text string) (api.Op, bool) {
	parts := strings.Split(text, " ")
	kind, ok := kindOf(parts[0])
	if !ok {
		return api.Op{}, false
	}
	o := api.Op{Kind: kind}
	named, _ := v.fieldsOf(&o)
	parts = parts[1:]
	if named.handle {
		if len(parts) == 0 || !readHandle(&o, parts[0]) {
			return api.Op{}, false
		}
		parts = parts[1:]
	}
	l, ok := numbers(natural, parts...)
	if !ok || !fill(&o, named, l) {
		return api.Op{}, false
	}
	return o, true
}

// fill gives numbers to the fields of an operation, and tells whether they are as many as these take.
func fill(o *api.Op, named fields, l []uint64) bool {
	if named.keys {
		o.Keys = l
		return !tooManyKeys(*o)
	}
	if len(l) != len(named.numbers) {
		return false
	}
	for i, n := range named.numbers {
		*n = l[i]
	}
	return true
}

// readHandle gives an operation its handle, or its Ref, and tells whether the text is one's.
func readHandle(o *api.Op, text string) bool {
	place, isRef := strings.CutPrefix(text, refMark)
	if !isRef {
		n, ok := natural(text)
		o.Handle = n
		return ok
	}
	thread, index, _ := strings.Cut(place, refDot)
	l, ok := numbers(integer, thread, index)
	if !ok {
		return false
	}
	o.Ref = api.Ref{Set: true, Thread: l[0], Index: l[1]}
	return rightHandle(*o)
}

// numbers reads parts of a line, each as one number, and tells whether all of them are.
func numbers[T any](read func(part string) (T, bool), parts ...string) ([]T, bool) {
	var l []T
	for _, part := range parts {
		n, ok := read(part)
		if !ok {
			return nil, false
		}
		l = append(l, n)
	}
	return l, true
}

// natural is a number without sign, in the one form in which it is written.
func natural(part string) (uint64, bool) {
	n, err := strconv.ParseUint(part, 10, 64)
	return n, err == nil && decimal(n) == part
}

// integer is one that may be below 0, in the one form in which it is written.
func integer(part string) (int, bool) {
	n, err := strconv.Atoi(part)
	return n, err == nil && strconv.Itoa(n) == part
}

func decimal(n uint64) string {
	return strconv.FormatUint(n, 10)
}
