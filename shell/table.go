package shell

import (
	"shutter/api"
	"shutter/explore"
)

// command is what a first word does, and which words stand behind it.
type command struct {
	parts []part // of the words behind the name, one each
	more  part   // of all words behind those; nil: there are none
	least int    // how many there are of these at least
	do    func(s *session, l line) string
}

// read is what the words behind the first one say, and whether they are such as stand there.
func (c command) read(words []string) (line, bool) {
	parts := append([]part{(*line).takeName}, c.parts...)
	if len(words) < len(parts)+c.least || len(words) > len(parts) && c.more == nil {
		return line{}, false
	}
	var l line
	for i, word := range words {
		take := c.more
		if i < len(parts) {
			take = parts[i]
		}
		if !take(&l, word) {
			return line{}, false
		}
	}
	return l, true
}

// table has the commands by their words.
type table map[string]command

func newTable() table {
	const anOp = 1 // an operation has a word at least
	number, thread, word := (*line).takeNumber, (*line).takeThread, (*line).takeWord
	return table{
		"new":      {parts: []part{number, number, number, number}, do: (*session).open},
		"do":       {more: word, least: anOp, do: inRoom((*room).do)},
		"start":    {parts: []part{thread}, more: word, least: anOp, do: inThread((*room).start)},
		"step":     {parts: []part{thread}, do: inThread((*room).step)},
		"finish":   {parts: []part{thread}, do: inThread((*room).finish)},
		"pending":  {do: inRoom((*room).pending)},
		"content":  {do: inRoom((*room).content)},
		"handles":  {do: inRoom((*room).handles)},
		"slots":    {do: inRoom((*room).slots)},
		"kept":     {do: inRoom((*room).kept)},
		"stamp":    {do: inRoom((*room).stamp)},
		"left":     {do: inRoom((*room).left)},
		"trace":    {do: inRoom((*room).trace)},
		"plan":     {parts: []part{thread}, more: word, least: anOp, do: inThread((*room).planOp)},
		"unplan":   {do: inRoom((*room).unplan)},
		"planned":  {do: inRoom((*room).planned)},
		"run":      {more: number, do: inRoom((*room).run)},
		"order":    {more: number, do: inRoom((*room).order)},
		"outcomes": {do: inRoom(tryBy(explore.Outcomes))},
		"few":      {do: inRoom(tryBy(explore.Few))},
		"reduced":  {do: inRoom(tryBy(explore.Reduced))},
		"bounded":  {parts: []part{number}, do: inRoom((*room).bounded)},
		"reach":    {more: word, do: inRoom((*room).reach)},
		"dump":     {parts: []part{number}, do: inRoom((*room).dump)},
		"diff":     {parts: []part{number, number}, do: inRoom((*room).diff)},
		"restore":  {parts: []part{(*line).takeBytes}, do: inRoom((*room).restore)},
	}
}

// inRoom does a line in the room of its name.
func inRoom(do func(r *room, l line) string) func(s *session, l line) string {
	return func(s *session, l line) string {
		r, known := s.rooms[l.name]
		if !known {
			return noStore
		}
		return do(r, l)
	}
}

// inThread is likewise, of a line that names a thread.
func inThread(do func(r *room, l line) string) func(s *session, l line) string {
	return inRoom(func(r *room, l line) string {
		if l.thread >= api.MaxThreads {
			return noThread
		}
		return do(r, l)
	})
}
