package hub_test

import (
	"math/rand"
	"reflect"
	"slices"
	"strconv"
	"testing"

	"shutter/api"
	"shutter/hub"
)

// spoken is what Race tells, as the chapter says it: a name's number is its first place.
func spoken(c api.Config, names [][]string) (int, [][]int) {
	first := map[string]int{}
	made := 0
	numbers := make([][]int, len(names))
	for i, l := range names {
		for k, name := range l {
			if _, known := first[name]; !known {
				first[name] = -1
				if _, errno := hub.New(c).Open(name); errno == api.OK {
					first[name] = i*1024 + k
					made++
				}
			}
			numbers[i] = append(numbers[i], first[name])
		}
	}
	return made, numbers
}

func checkRace(t *testing.T, c api.Config, names [][]string) {
	t.Helper()
	wantMade, want := spoken(c, names)
	made, numbers, errno := hub.Race(c, names)
	if made != wantMade || errno != api.OK || len(numbers) != len(want) {
		t.Fatal(made, len(numbers), errno)
	}
	for i := range want {
		if !slices.Equal(numbers[i], want[i]) {
			t.Fatal(names[i], numbers[i], want[i])
		}
	}
}

// The examples of the chapter.
func TestRaceExamples(t *testing.T) {
	names := [][]string{{"a", "b"}, {"b", "a"}, {"c"}}
	made, numbers, errno := hub.Race(config(), names)
	if made != 3 || errno != api.OK || !reflect.DeepEqual(numbers, [][]int{{0, 1}, {1, 0}, {2048}}) {
		t.Error(made, numbers, errno)
	}
	c := config()
	c.Cells = 1
	made, numbers, errno = hub.Race(c, names)
	if made != 0 || errno != api.OK || !reflect.DeepEqual(numbers, [][]int{{-1, -1}, {-1, -1}, {-1}}) {
		t.Error(made, numbers, errno)
	}
}

// P24.2: names that are none, no lists, lists without names.
func TestRaceOfOdds(t *testing.T) {
	for _, names := range [][][]string{
		nil, {}, {nil}, {{}, nil}, {{""}}, {{"", "A", "a", ""}, {"B", "a", "A"}}, {nil, {"a"}, nil}, {{"a", "a", "a"}},
	} {
		checkRace(t, config(), names)
		for c := range wrongs() {
			checkRace(t, c, names)
		}
	}
}

// P24.2: too many lists, too long ones, and too many names.
func TestRaceTooLong(t *testing.T) {
	many := func(count int, head string) []string {
		var l []string
		for i := range count {
			l = append(l, head+strconv.Itoa(i))
		}
		return l
	}
	full := many(api.MaxNames, "n")
	for _, names := range [][][]string{
		make([][]string, api.MaxFree), {slices.Repeat([]string{"a"}, 1024)}, {full}, {full[:20], full[10:]}, {full, full, {"n0"}},
		{full, many(1000, "N")}, {full, {"", "-A"}},
	} {
		checkRace(t, config(), names)
	}
	for _, names := range [][][]string{
		make([][]string, api.MaxFree+1), {slices.Repeat([]string{"a"}, 1025)}, {{"a"}, make([]string, 1025)}, {many(api.MaxNames+1, "n")},
		{full, {"a"}}, {{"a"}, full, {"b"}}, append(slices.Repeat([][]string{{"a"}}, api.MaxFree), nil),
	} {
		for _, c := range []api.Config{config(), {}} {
			if made, numbers, errno := hub.Race(c, names); made != 0 || len(numbers) != 0 || errno != api.ErrLong {
				t.Error(len(names), made, len(numbers), errno)
			}
		}
	}
}

// P24.2, P24.5: it tells the same, whoever comes first.
func TestRaceOfSome(t *testing.T) {
	r := rand.New(rand.NewSource(24))
	for range 300 {
		names := make([][]string, 1+r.Intn(16))
		unlike := 1 + r.Intn(12)
		for i := range names {
			for range r.Intn(20) {
				name := strconv.Itoa(r.Intn(unlike))
				if r.Intn(10) == 0 {
					name = "X" + name
				}
				names[i] = append(names[i], name)
			}
		}
		checkRace(t, config(), names)
	}
}

// P24.5: many lists in all orders of the same names.
func TestRaceTellsTheSame(t *testing.T) {
	names := make([][]string, api.MaxFree)
	for i := range names {
		for k := range 32 {
			names[i] = append(names[i], strconv.Itoa((i*7+k*(2*i+1))%32))
		}
	}
	made, numbers, errno := hub.Race(config(), names)
	if made != 32 || errno != api.OK {
		t.Fatal(made, errno)
	}
	for range 30 {
		again, same, errno := hub.Race(config(), names)
		if again != made || !reflect.DeepEqual(same, numbers) || errno != api.OK {
			t.Fatal(again, errno)
		}
	}
	checkRace(t, config(), names)
}

// P3: what is handed in stays; the lists of the answer are the caller's.
func TestRaceSharesNothing(t *testing.T) {
	names := [][]string{append(make([]string, 0, 4), "b", "a"), {"a"}}
	_, numbers, _ := hub.Race(config(), names)
	for k := range numbers[0][:cap(numbers[0])] {
		numbers[0][:cap(numbers[0])][k] = 99
	}
	if !slices.Equal(names[0][:4], []string{"b", "a", "", ""}) || !slices.Equal(names[1], []string{"a"}) || !slices.Equal(numbers[1], []int{1}) {
		t.Error(names, numbers)
	}
}
