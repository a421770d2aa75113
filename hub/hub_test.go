package hub_test

import (
	"slices"
	"strconv"
	"strings"
	"testing"

	"shutter/api"
	"shutter/hub"
	"shutter/step"
	"shutter/store"
)

func config() api.Config {
	return api.Config{Cells: 400, Slots: 2, Stamps: 100, Multi: 4}
}

// wrongs are Configs of which no store can be made, and why.
func wrongs() map[api.Config]api.Errno {
	return map[api.Config]api.Errno{
		{}: api.ErrRange,
		{Cells: 1, Slots: 2, Stamps: 100, Multi: 4}:    api.ErrRange,
		{Cells: 400, Slots: 0, Stamps: 100, Multi: 4}:  api.ErrRange,
		{Cells: 128, Slots: 63, Stamps: 100, Multi: 4}: api.ErrMemory,
	}
}

// open is the store of a name that can be opened.
func open(t *testing.T, h *hub.Hub, name string) *store.Store {
	t.Helper()
	s, errno := h.Open(name)
	if s == nil || errno != api.OK {
		t.Fatal(name, s, errno)
	}
	return s
}

// fails checks that a name cannot be opened.
func fails(t *testing.T, h *hub.Hub, name string, want api.Errno) {
	t.Helper()
	if s, errno := h.Open(name); s != nil || errno != want {
		t.Errorf("%q: %v %d, not %d", name, s != nil, errno, want)
	}
}

// The examples of the chapter.
func TestExamples(t *testing.T) {
	h := hub.New(config())
	a := open(t, h, "a")
	if open(t, h, "a") != a || h.Made() != 1 {
		t.Error("not the same")
	}
	h.Close()
	fails(t, h, "b", api.ErrClosed)
	if open(t, h, "a") != a {
		t.Error("not the same")
	}
	fails(t, h, "", api.ErrRange)
	fails(t, h, "A", api.ErrRange)
}

// P24.1: which are names.
func TestNames(t *testing.T) {
	for name, want := range map[string]bool{
		"": false, "a": true, "z": true, "0": true, "9": true, "-": true, "a-0": true, "--": true, "0123456789": true,
		"`": false, "{": false, "/": false, ":": false, ",": false, ".": false, "_": false, "A": false, "Z": false, " ": false,
		"a ": false, " a": false, "aB": false, "Ba": false, "a\x00": false, "a\n": false, "\xff": false, "ä": false, "aé": false, "ａ": false,
		strings.Repeat("a", api.MaxName): true, strings.Repeat("a", api.MaxName+1): false,
		strings.Repeat("ä", api.MaxName/2): false, strings.Repeat("a", 1<<20): false,
	} {
		h := hub.New(config())
		if want {
			open(t, h, name)
			if !slices.Equal(h.Names(), []string{name}) || h.Made() != 1 {
				t.Errorf("%q: %q %d", name, h.Names(), h.Made())
			}
			continue
		}
		fails(t, h, name, api.ErrRange)
		if len(h.Names()) != 0 || h.Made() != 0 {
			t.Errorf("%q: %q %d", name, h.Names(), h.Made())
		}
	}
}

// P24.1: each byte, by itself and amid others.
func TestBytesOfNames(t *testing.T) {
	for b := range 256 {
		want := api.ErrRange
		if strings.IndexByte("abcdefghijklmnopqrstuvwxyz0123456789-", byte(b)) >= 0 {
			want = api.OK
		}
		for _, name := range []string{string([]byte{byte(b)}), "a" + string([]byte{byte(b)}) + "a"} {
			if _, errno := hub.New(config()).Open(name); errno != want {
				t.Errorf("%q: %d", name, errno)
			}
		}
	}
}

// P24.1: the stores are of the hub's Config, live, and empty.
func TestStores(t *testing.T) {
	c := config()
	h := hub.New(c)
	c.Cells = 500 // the hub's is its own
	s := open(t, h, "a")
	if m := s.Memory(); !m.Live() || m.Cells() != 400 || s.Slots().Count != 2 || s.Slots().Most != 100 || len(s.Content()) != 0 {
		t.Error(m.Live(), m.Cells(), s.Slots(), s.Content())
	}
	if a := do(s, api.Op{Kind: api.MultiGet, Keys: make([]uint64, 5)}); a.Errno != api.ErrLong {
		t.Error(a)
	}
	if a := do(s, api.Op{Kind: api.MultiGet, Keys: make([]uint64, 4)}); a.Errno != api.ErrHandle {
		t.Error(a)
	}
}

// do does an operation.
func do(s *store.Store, op api.Op) api.Answer {
	c := s.Call(op)
	step.Alone(s.Memory().View(0), c, 1000)
	return c.Answer()
}

// P24.1: a name of which no store can be made is had all the same, and tells the same error each time.
func TestErrorsStay(t *testing.T) {
	for c, want := range wrongs() {
		h := hub.New(c)
		fails(t, h, "b", want)
		fails(t, h, "a", want)
		fails(t, h, "b", want)
		fails(t, h, "", api.ErrRange)
		h.Close()
		fails(t, h, "a", want)
		fails(t, h, "c", api.ErrClosed)
		if h.Made() != 0 || !slices.Equal(h.Names(), []string{"a", "b"}) {
			t.Error(h.Made(), h.Names())
		}
	}
}

// P24.1: names that a hub has count, whether they have a store or not: of more than MaxNames ErrFull, behind ErrRange and ErrClosed.
func TestFull(t *testing.T) {
	for _, c := range []api.Config{config(), {}} {
		h := hub.New(c)
		var names []string
		for i := range api.MaxNames {
			name := "n" + strconv.Itoa(i)
			names = append(names, name)
			if _, errno := h.Open(name); (errno == api.OK) != (c == config()) || errno == api.ErrFull {
				t.Fatal(name, errno)
			}
		}
		slices.Sort(names)
		fails(t, h, "one-more", api.ErrFull)
		fails(t, h, "One-more", api.ErrRange)
		if !slices.Equal(h.Names(), names) {
			t.Error(h.Names())
		}
		if s, errno := h.Open("n63"); (s != nil) != (c == config()) || errno == api.ErrFull {
			t.Error(errno)
		}
		h.Close()
		fails(t, h, "one-more", api.ErrClosed)
		if s, errno := h.Open("n63"); (s != nil) != (c == config()) || errno == api.ErrClosed {
			t.Error(errno)
		}
		if !slices.Equal(h.Names(), names) {
			t.Error(h.Names())
		}
	}
}

// P24.1: Names are rising, by their bytes; what Close leaves.
func TestNamesRise(t *testing.T) {
	h := hub.New(config())
	if len(h.Names()) != 0 || h.Made() != 0 {
		t.Error(h.Names(), h.Made())
	}
	for i, name := range []string{"b", "a", "-", "10", "ab", "9", "a-", "a0", "b"} {
		open(t, h, name)
		if h.Made() != min(i+1, 8) {
			t.Error(name, h.Made())
		}
	}
	h.Close()
	h.Close()
	if want := []string{"-", "10", "9", "a", "a-", "a0", "ab", "b"}; !slices.Equal(h.Names(), want) || h.Made() != 8 {
		t.Error(h.Names(), h.Made())
	}
	// P3: the list is the caller's.
	h.Names()[0] = "x"
	if h.Names()[0] != "-" {
		t.Error(h.Names())
	}
}

// P24.1: a hub that is closed at first takes none.
func TestClosedAtFirst(t *testing.T) {
	h := hub.New(config())
	h.Close()
	fails(t, h, "a", api.ErrClosed)
	fails(t, h, "a", api.ErrClosed)
	fails(t, h, "", api.ErrRange)
	if h.Made() != 0 || len(h.Names()) != 0 {
		t.Error(h.Made(), h.Names())
	}
}

// P1: of nil.
func TestNil(t *testing.T) {
	var h *hub.Hub
	fails(t, h, "a", api.ErrNil)
	fails(t, h, "", api.ErrNil)
	h.Close()
	fails(t, h, "a", api.ErrNil)
	if h.Made() != 0 || len(h.Names()) != 0 {
		t.Error(h.Made(), h.Names())
	}
}

// P6: hubs are each by itself.
func TestHubsAreApart(t *testing.T) {
	a, b := hub.New(config()), hub.New(config())
	a.Close()
	fails(t, a, "x", api.ErrClosed)
	open(t, b, "x")
	c := hub.New(config())
	if c.Made() != 0 || len(c.Names()) != 0 || open(t, c, "x") == open(t, b, "x") {
		t.Error(c.Made(), c.Names())
	}
}
