package word_test

import (
	"math"
	"strconv"
	"strings"
	"testing"

	"shutter/api"
	"shutter/word"
)

// edges are numbers near the bounds of every field that a word has.
func edges() []uint64 {
	l := []uint64{0, 1, 2, 3, 5, 7, 255, 256, 257, 1000003}
	for bit := range 64 {
		p := uint64(1) << bit
		l = append(l, p-1, p, p+1)
	}
	return append(l, math.MaxUint64-1, math.MaxUint64)
}

// slots are slots that Pack takes: the least and the greatest of each field, and some between.
func slots() []api.Slot {
	var l []api.Slot
	for _, kind := range []api.SlotKind{api.Free, api.Claimed, api.Early, api.Exact} {
		for _, gen := range []uint64{0, 1, 3, 10, 1 << 19, api.MaxGen - 2, api.MaxGen - 1} {
			for _, stamp := range []uint64{0, 1, 7, 100, 1 << 20, api.MaxStamp - 1, api.MaxStamp} {
				l = append(l, api.Slot{Kind: kind, Gen: gen, Stamp: stamp})
			}
		}
	}
	return l
}

// badSlots are slots that Pack does not take.
func badSlots() []api.Slot {
	l := []api.Slot{
		{Kind: api.Free, Gen: api.MaxGen},
		{Kind: api.Exact, Gen: api.MaxGen + 1, Stamp: 7},
		{Kind: api.Early, Gen: math.MaxUint64},
		{Kind: api.Free, Stamp: api.MaxStamp + 1},
		{Kind: api.Exact, Gen: 3, Stamp: 1 << 42},
		{Kind: api.Claimed, Stamp: math.MaxUint64},
		{Kind: 255, Gen: math.MaxUint64, Stamp: math.MaxUint64},
	}
	for kind := 4; kind < 256; kind++ {
		l = append(l, api.Slot{Kind: api.SlotKind(kind)})
	}
	return l
}

func checkChild(t *testing.T, kind api.ChildKind, addr, want uint64, wantErr api.Errno) {
	t.Helper()
	if w, err := word.Child(kind, addr); w != want || err != wantErr {
		t.Errorf("Child(%d, %d): %d, %d, not %d, %d", kind, addr, w, err, want, wantErr)
	}
}

// P1.1.
func TestChild(t *testing.T) {
	checkChild(t, api.Nothing, 0, 0, api.OK)
	checkChild(t, api.Leaf, 5, 11, api.OK)
	checkChild(t, api.Branch, 5, 10, api.OK)
	checkChild(t, api.Leaf, 1, 3, api.OK)
	checkChild(t, api.Branch, 1, 2, api.OK)
	checkChild(t, api.Leaf, 1<<62-1, 1<<63-1, api.OK)
	checkChild(t, api.Branch, 1<<62-1, 1<<63-2, api.OK)
	checkChild(t, api.Leaf, 1<<62, 1<<63+1, api.OK)
	checkChild(t, api.Branch, 1<<62, 1<<63, api.OK)
}

// P1.1, and P2 of the document's rules: zero beside an error.
func TestChildThatMayNotBe(t *testing.T) {
	checkChild(t, api.Leaf, 0, 0, api.ErrRange)
	checkChild(t, api.Branch, 0, 0, api.ErrRange)
	for _, addr := range edges() {
		if addr > 0 {
			checkChild(t, api.Nothing, addr, 0, api.ErrRange)
		}
		if addr > 1<<62 {
			checkChild(t, api.Leaf, addr, 0, api.ErrRange)
			checkChild(t, api.Branch, addr, 0, api.ErrRange)
		}
		for kind := 3; kind < 256; kind++ {
			checkChild(t, api.ChildKind(kind), addr, 0, api.ErrRange)
		}
	}
}

// P1.1.
func TestSplit(t *testing.T) {
	for _, c := range []struct {
		word uint64
		kind api.ChildKind
		addr uint64
	}{
		{0, api.Nothing, 0},
		{1, api.Leaf, 0},
		{2, api.Branch, 1},
		{3, api.Leaf, 1},
		{10, api.Branch, 5},
		{11, api.Leaf, 5},
		{1<<63 - 2, api.Branch, 1<<62 - 1},
		{1<<63 - 1, api.Leaf, 1<<62 - 1},
		{1 << 63, api.Branch, 1 << 62},
		{1<<63 + 1, api.Leaf, 1 << 62},
		{1<<63 + 2, api.Branch, 1<<62 + 1},
		{math.MaxUint64 - 1, api.Branch, 1<<63 - 1},
		{math.MaxUint64, api.Leaf, 1<<63 - 1},
	} {
		if kind, addr := word.Split(c.word); kind != c.kind || addr != c.addr {
			t.Errorf("Split(%d): %d, %d, not %d, %d", c.word, kind, addr, c.kind, c.addr)
		}
	}
}

// P1.5.
func TestChildAndSplit(t *testing.T) {
	for _, addr := range edges() {
		if addr == 0 || addr > 1<<62 {
			continue
		}
		for _, kind := range []api.ChildKind{api.Leaf, api.Branch} {
			w, err := word.Child(kind, addr)
			k, a := word.Split(w)
			if err != api.OK || k != kind || a != addr {
				t.Errorf("%d, %d: word %d, %d, which is %d, %d", kind, addr, w, err, k, a)
			}
		}
	}
	for _, w := range edges() {
		if w == 1 || w > 1<<63 {
			continue
		}
		kind, addr := word.Split(w)
		checkChild(t, kind, addr, w, api.OK)
	}
	for _, w := range []uint64{1, 1<<63 + 2, 1<<63 + 3, math.MaxUint64} {
		kind, addr := word.Split(w)
		checkChild(t, kind, addr, 0, api.ErrRange)
	}
}

// P1.2.
func TestPack(t *testing.T) {
	for _, s := range slots() {
		want := uint64(s.Kind) + 4*s.Gen + 4194304*s.Stamp
		if w, err := word.Pack(s); w != want || err != api.OK {
			t.Errorf("Pack(%v): %d, %d, not %d", s, w, err, want)
		}
	}
	if w, err := word.Pack(api.Slot{Kind: api.Exact, Gen: 3, Stamp: 7}); w != 29360143 || err != api.OK {
		t.Error(w, err)
	}
	for _, s := range badSlots() {
		if w, err := word.Pack(s); w != 0 || err != api.ErrRange {
			t.Errorf("Pack(%v): %d, %d, not ErrRange", s, w, err)
		}
	}
}

// P1.2.
func TestUnpack(t *testing.T) {
	for _, w := range edges() {
		want := api.Slot{Kind: api.SlotKind(w % 4), Gen: w / 4 % (1 << 20), Stamp: w / (1 << 22)}
		if s := word.Unpack(w); s != want {
			t.Errorf("Unpack(%d): %v, not %v", w, s, want)
		}
	}
	if s := word.Unpack(29360143); s != (api.Slot{Kind: api.Exact, Gen: 3, Stamp: 7}) {
		t.Error(s)
	}
	// A stamp that Pack does not take.
	if s := word.Unpack(math.MaxUint64); s != (api.Slot{Kind: api.Exact, Gen: 1<<20 - 1, Stamp: 1<<42 - 1}) {
		t.Error(s)
	}
}

// P1.5 and P1.6.
func TestPackAndUnpack(t *testing.T) {
	seen := map[uint64]api.Slot{}
	for _, s := range slots() {
		w, _ := word.Pack(s)
		if back := word.Unpack(w); back != s {
			t.Errorf("%v: word %d, which is %v", s, w, back)
		}
		if other, known := seen[w]; known {
			t.Errorf("%v and %v: both %d", s, other, w)
		}
		seen[w] = s
	}
}

// P1.3.
func TestHandle(t *testing.T) {
	for _, c := range []struct {
		slot   int
		gen    uint64
		handle uint64
	}{
		{0, 0, 1},
		{1, 2, 131074},
		{0, 1, 65537},
		{api.MaxSlots - 1, 0, 256},
		{api.MaxSlots - 1, api.MaxGen - 1, 256 + 65536*1048575},
		{0, api.MaxGen - 1, 1 + 65536*1048575},
	} {
		if h, err := word.Handle(c.slot, c.gen); h != c.handle || err != api.OK {
			t.Errorf("Handle(%d, %d): %d, %d, not %d", c.slot, c.gen, h, err, c.handle)
		}
		if slot, gen, err := word.Unhandle(c.handle); slot != c.slot || gen != c.gen || err != api.OK {
			t.Errorf("Unhandle(%d): %d, %d, %d, not %d, %d", c.handle, slot, gen, err, c.slot, c.gen)
		}
	}
}

// P1.3.
func TestHandleThatMayNotBe(t *testing.T) {
	for _, c := range []struct {
		slot int
		gen  uint64
	}{
		{-1, 0},
		{math.MinInt, 0},
		{api.MaxSlots, 0},
		{1<<16 - 1, 0},
		{1 << 16, 0},
		{math.MaxInt, 0},
		{0, api.MaxGen},
		{0, 1 << 48},
		{0, math.MaxUint64},
		{-1, math.MaxUint64},
	} {
		if h, err := word.Handle(c.slot, c.gen); h != 0 || err != api.ErrRange {
			t.Errorf("Handle(%d, %d): %d, %d, not ErrRange", c.slot, c.gen, h, err)
		}
	}
	for _, h := range []uint64{
		0, 65536, 131072, 65536 * 1048575,
		257, 65535, 65536 + 257, 131071,
		1 + 65536*1048576, 256 + 65536*1048576, 1 + 1<<63, math.MaxUint64,
	} {
		if slot, gen, err := word.Unhandle(h); slot != 0 || gen != 0 || err != api.ErrHandle {
			t.Errorf("Unhandle(%d): %d, %d, %d, not ErrHandle", h, slot, gen, err)
		}
	}
}

// P1.5 and P1.6.
func TestHandleAndUnhandle(t *testing.T) {
	seen := map[uint64]int{0: -1}
	for slot := range api.MaxSlots {
		for _, gen := range []uint64{0, 1, 2, 255, 256, 65535, 65536, api.MaxGen - 1} {
			h, err := word.Handle(slot, gen)
			s, g, back := word.Unhandle(h)
			if err != api.OK || back != api.OK || s != slot || g != gen {
				t.Errorf("%d, %d: handle %d, %d, which is %d, %d, %d", slot, gen, h, err, s, g, back)
			}
			if _, known := seen[h]; known {
				t.Errorf("%d, %d: the handle %d is another one's, or 0", slot, gen, h)
			}
			seen[h] = slot
		}
	}
}

// P1.4.
func TestPrint(t *testing.T) {
	for _, c := range []struct {
		slot api.Slot
		text string
	}{
		{api.Slot{Kind: api.Exact, Gen: 3, Stamp: 7}, "exact 3 7"},
		{api.Slot{}, "free 0 0"},
		{api.Slot{Kind: api.Claimed, Gen: 10}, "claimed 10 0"},
		{api.Slot{Kind: api.Early, Stamp: 100}, "early 0 100"},
		{api.Slot{Kind: api.Free, Gen: api.MaxGen - 1, Stamp: api.MaxStamp}, "free 1048575 1099511627776"},
	} {
		if text := word.Print(c.slot); text != c.text {
			t.Errorf("Print(%v): %q, not %q", c.slot, text, c.text)
		}
		if slot, err := word.Parse(c.text); slot != c.slot || err != api.OK {
			t.Errorf("Parse(%q): %v, %d, not %v", c.text, slot, err, c.slot)
		}
	}
	for _, s := range badSlots() {
		if text := word.Print(s); text != "" {
			t.Errorf("Print(%v): %q, not empty", s, text)
		}
	}
}

// P1.4, with P8 of the document's rules.
func TestParseOfNoText(t *testing.T) {
	for _, s := range []string{
		"", " ", "  ", "exact", "exact ", "exact  ", "exact 3", "exact 3 ", "exact  7", " 3 7", "3 7",
		"exact 03 7", "exact 3 07", "free 00 0", "free 0 00", "exact +3 7", "exact 3 +7", "exact -3 7", "exact -0 7", "exact 3 -0", "exact 3 -7",
		" exact 3 7", "exact 3 7 ", "exact 3 7\n", "exact  3 7", "exact 3  7", "exact\t3 7", "exact 3\t7", "exact 3 7 9", "exact 3 7 exact 3 7", "exact 3 7\x00",
		"Exact 3 7", "EXACT 3 7", "exac 3 7", "exactly 3 7", "none 3 7", "3 3 7", "\xff 3 7", "exact\u00a03 7",
		"exact x 7", "exact 3 x", "exact 0x3 7", "exact 1_0 7", "exact 3. 7", "exact 3 7e0", "exact \u0663 7", "exact \uff13 7",
		"exact 1048576 7", "exact 3 1099511627777",
		"exact 18446744073709551615 7", "exact 3 18446744073709551615",
		"exact 18446744073709551619 7", "exact 3 18446744073709551623",
		"exact 3 " + strings.Repeat("9", 1000), "exact " + strings.Repeat("0", 1000) + "3 7", strings.Repeat("exact ", 1000),
	} {
		if slot, err := word.Parse(s); slot != (api.Slot{}) || err != api.ErrForm {
			t.Errorf("Parse(%q): %v, %d, not ErrForm", s, slot, err)
		}
	}
}

// P1.5, and E10: there and back, and one way to write each.
func TestPrintAndParse(t *testing.T) {
	names := []string{"free", "claimed", "early", "exact"}
	for _, s := range slots() {
		text := word.Print(s)
		if want := names[s.Kind] + " " + strconv.FormatUint(s.Gen, 10) + " " + strconv.FormatUint(s.Stamp, 10); text != want {
			t.Errorf("Print(%v): %q, not %q", s, text, want)
		}
		if back, err := word.Parse(text); back != s || err != api.OK {
			t.Errorf("%v: text %q, which is %v, %d", s, text, back, err)
		}
	}
}

// E10: a text that is read is the one that is printed again; any other is none.
func FuzzParse(f *testing.F) {
	for _, s := range slots() {
		f.Add(word.Print(s))
	}
	f.Add("exact 03 7")
	f.Add("exact 3 +7")
	f.Fuzz(func(t *testing.T, text string) {
		s, err := word.Parse(text)
		if err == api.OK && word.Print(s) != text {
			t.Errorf("Parse(%q): %v, which is %q", text, s, word.Print(s))
		}
		if err != api.OK && (err != api.ErrForm || s != (api.Slot{})) {
			t.Errorf("Parse(%q): %v, %d", text, s, err)
		}
	})
}
