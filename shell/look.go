package shell

import (
	"strconv"
	"strings"

	"shutter/announce"
	"shutter/cut"
	"shutter/handle"
	"shutter/word"
)

func (r *room) content(line) string {
	return row("pairs", r.store.Content(), pairText)
}

func (r *room) handles(line) string {
	return row("handles", handle.Live(r.store.Memory(), r.store.Slots()), decimal)
}

func (r *room) slots(line) string {
	var texts []string
	for _, slot := range announce.Slots(r.store.Memory(), r.store.Slots()) {
		texts = append(texts, word.Print(slot))
	}
	return "slots " + strings.Join(texts, ", ")
}

func (r *room) kept(line) string {
	return strconv.Itoa(cut.Kept(r.store.Memory(), r.store.Tree()))
}

func (r *room) stamp(line) string {
	return decimal(r.store.Memory().Peek(r.store.Tree().Camera))
}

func (r *room) left(line) string {
	return strconv.Itoa(r.store.Memory().Left())
}

func (r *room) trace(line) string {
	return strconv.Itoa(r.store.Memory().Made())
}
