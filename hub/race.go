package hub

import (
	"shutter/api"
	"shutter/crew"
	"shutter/store"
)

// maxList is how many names a list of Race may have: so a number of a list and one of its names are one number.
const maxList = 1024

// failed stands for a store where there was an error.
const failed = -1

// Race lets a goroutine for each list open the names of it: how many stores were made, and of each list which store (by the number of the list and name that had it first, in the order of the lists) was told.
func Race(c api.Config, names [][]string) (int, [][]int, api.Errno) {
	if tooLong(names) {
		return 0, nil, api.ErrLong
	}
	h := New(c)
	told := make([][]*store.Store, len(names))
	crew.Together(len(names), func(i int) {
		for _, name := range names[i] {
			s, _ := h.Open(name) // nil, if there was an error
			told[i] = append(told[i], s)
		}
	})
	return h.Made(), numbered(told), api.OK
}

func tooLong(names [][]string) bool {
	if len(names) > api.MaxFree {
		return true
	}
	unlike := map[string]struct{}{}
	for _, l := range names {
		if len(l) > maxList {
			return true
		}
		for _, name := range l {
			if isName(name) {
				unlike[name] = struct{}{}
			}
		}
	}
	return len(unlike) > api.MaxNames
}

// numbered tells of each store the place at which it was told first, by lists and then by names.
func numbered(told [][]*store.Store) [][]int {
	numbers := make([][]int, len(told))
	first := map[*store.Store]int{nil: failed}
	for i, l := range told {
		for k, s := range l {
			if _, known := first[s]; !known {
				first[s] = i*maxList + k
			}
			numbers[i] = append(numbers[i], first[s])
		}
	}
	return numbers
}
