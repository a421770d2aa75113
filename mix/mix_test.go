package mix_test

import (
	"math"
	"math/big"
	"slices"
	"strconv"
	"strings"
	"testing"

	"shutter/api"
	"shutter/mix"
)

// numbers are numbers of 64 bits: those near the powers of 2, patterns, and a row of scattered ones.
func numbers() []uint64 {
	l := []uint64{0, 5, 7, 100, 1000003, 0x5555555555555555, 0xaaaaaaaaaaaaaaaa, 0x0123456789abcdef, 6238072747940578789, 1346066267577507604}
	for bit := range 64 {
		p := uint64(1) << bit
		l = append(l, p-1, p, p+1, ^p)
	}
	x := uint64(1)
	for range 200 {
		x = x*6364136223846793005 + 1442695040888963407
		l = append(l, x)
	}
	return append(l, math.MaxUint64-1, math.MaxUint64)
}

// turns are numbers of bits to turn by: all small ones, and the edges of int.
func turns() []int {
	l := []int{math.MinInt, math.MinInt + 1, -1000003, 1000003, math.MaxInt - 1, math.MaxInt}
	for n := -130; n <= 130; n++ {
		l = append(l, n)
	}
	return l
}

// mixedByWords is a key, mixed as the chapter's words say, in whole numbers.
func mixedByWords(key uint64) uint64 {
	round := new(big.Int).Lsh(big.NewInt(1), 64)
	x := new(big.Int).SetUint64(key)
	for _, step := range []struct {
		power  uint
		factor string
	}{
		{30, "bf58476d1ce4e5b9"},
		{27, "94d049bb133111eb"},
		{31, "1"},
	} {
		factor, _ := new(big.Int).SetString(step.factor, 16)
		x.Xor(x, new(big.Int).Div(x, new(big.Int).Lsh(big.NewInt(1), step.power)))
		x.Mod(x.Mul(x, factor), round)
	}
	return x.Uint64()
}

// digitsByWords are the digits as they stand in the number, written in bits.
func digitsByWords(h uint64) []int {
	text := strconv.FormatUint(h, 2)
	text = strings.Repeat("0", 64-len(text)) + text
	var l []int
	for len(text) > 0 {
		n := min(6, len(text))
		digit, _ := strconv.ParseUint(text[:n], 2, 64)
		l = append(l, int(digit))
		text = text[n:]
	}
	return l
}

// P2.1.
func TestMix(t *testing.T) {
	for _, c := range []struct{ key, mixed uint64 }{{0, 0}, {1, 6238072747940578789}, {7, 1346066267577507604}} {
		if h := mix.Mix(c.key); h != c.mixed {
			t.Errorf("Mix(%d): %d, not %d", c.key, h, c.mixed)
		}
		if key := mix.Back(c.mixed); key != c.key {
			t.Errorf("Back(%d): %d, not %d", c.mixed, key, c.key)
		}
	}
	for _, key := range numbers() {
		if h := mix.Mix(key); h != mixedByWords(key) {
			t.Errorf("Mix(%d): %d, not %d", key, h, mixedByWords(key))
		}
	}
}

// P2.1 and P2.4.
func TestMixAndBack(t *testing.T) {
	seen := map[uint64]uint64{}
	for _, v := range numbers() {
		h := mix.Mix(v)
		if back := mix.Back(h); back != v {
			t.Errorf("Back(Mix(%d)): %d", v, back)
		}
		if again := mix.Mix(mix.Back(v)); again != v {
			t.Errorf("Mix(Back(%d)): %d", v, again)
		}
		if other, known := seen[h]; known && other != v {
			t.Errorf("Mix of %d and of %d: %d", v, other, h)
		}
		seen[h] = v
	}
}

// P2.2.
func TestDigits(t *testing.T) {
	if l := mix.Digits(mix.Mix(1)); !slices.Equal(l, []int{21, 41, 8, 22, 7, 17, 0, 11, 1, 30, 5}) {
		t.Error(l)
	}
	if l := mix.Digits(mix.Mix(7)); !slices.Equal(l, []int{4, 42, 56, 48, 8, 55, 44, 23, 55, 49, 4}) {
		t.Error(l)
	}
	if l := mix.Digits(math.MaxUint64); !slices.Equal(l, []int{63, 63, 63, 63, 63, 63, 63, 63, 63, 63, 15}) {
		t.Error(l)
	}
	for _, h := range numbers() {
		want := digitsByWords(h)
		if l := mix.Digits(h); !slices.Equal(l, want) {
			t.Errorf("Digits(%d): %v, not %v", h, l, want)
		}
		for level, digit := range want {
			if d := mix.Digit(h, level); d != digit {
				t.Errorf("Digit(%d, %d): %d, not %d", h, level, d, digit)
			}
		}
	}
}

// P2.2.
func TestDigitOfNoLevel(t *testing.T) {
	for _, level := range []int{-1, -2, -11, math.MinInt, api.Levels, api.Levels + 1, 64, 1 << 32, math.MaxInt} {
		for _, h := range numbers() {
			if d := mix.Digit(h, level); d != 0 {
				t.Errorf("Digit(%d, %d): %d, not 0", h, level, d)
			}
		}
	}
}

// P2.2.
func TestJoin(t *testing.T) {
	if h, ok := mix.Join([]int{0, 0, 0, 0, 0, 0, 0, 0, 0, 0, 1}); h != 1 || !ok {
		t.Error(h, ok)
	}
	if h, ok := mix.Join([]int{63, 63, 63, 63, 63, 63, 63, 63, 63, 63, 15}); h != math.MaxUint64 || !ok {
		t.Error(h, ok)
	}
	for level := range api.Levels {
		l := make([]int, api.Levels)
		l[level] = 1
		want := uint64(1)
		if level < 10 {
			want = 1 << (58 - 6*level)
		}
		if h, ok := mix.Join(l); h != want || !ok {
			t.Errorf("Join(%v): %d, %t, not %d", l, h, ok, want)
		}
	}
}

func checkNoJoin(t *testing.T, l []int) {
	t.Helper()
	if h, ok := mix.Join(l); h != 0 || ok {
		t.Errorf("Join(%v): %d, %t, not false", l, h, ok)
	}
}

// P2.2, and P2 of the document's rules: zero beside a false.
func TestJoinOfNoDigits(t *testing.T) {
	checkNoJoin(t, nil)
	for _, n := range []int{0, 1, 10, 12, 22, 1000} {
		checkNoJoin(t, slices.Repeat([]int{1}, n))
	}
	for level := range api.Levels {
		above := 64
		if level == 10 {
			above = 16
		}
		for _, digit := range []int{-1, -64, math.MinInt, above, above + 1, 127, 1 << 32, math.MaxInt} {
			l := slices.Repeat([]int{1}, api.Levels)
			l[level] = digit
			checkNoJoin(t, l)
		}
	}
}

// P2.5.
func TestDigitsAndJoin(t *testing.T) {
	for _, h := range numbers() {
		l := mix.Digits(h)
		back, ok := mix.Join(l)
		if back != h || !ok {
			t.Errorf("Join(Digits(%d)): %d, %t", h, back, ok)
		}
		if again := mix.Digits(back); !slices.Equal(again, l) {
			t.Errorf("Digits(Join(%v)): %v", l, again)
		}
	}
}

// P3 of the document's rules: what is handed in stays, what is answered is the caller's.
func TestListsAreTheirOwners(t *testing.T) {
	room := []int{1, 2, 3, 4, 5, 6, 7, 8, 9, 10, 11, 12, 13}
	kept := slices.Clone(room)
	mix.Join(room[:api.Levels])
	mix.Join(room[:api.Levels-1])
	if !slices.Equal(room, kept) {
		t.Error("Join changed what it was given:", room)
	}
	first := mix.Digits(7)
	second := mix.Digits(7)
	want := slices.Clone(second)
	for i := range first {
		first[i] = 99
	}
	_ = append(first, 99)
	if third := mix.Digits(7); !slices.Equal(second, want) || !slices.Equal(third, want) {
		t.Error("what Digits told was changed:", second, third)
	}
}

// P2.2.
func TestCommon(t *testing.T) {
	for _, c := range []struct {
		a, b uint64
		want int
	}{
		{1, 2, 10},
		{5, 5, 11},
		{0, 0, 11},
		{math.MaxUint64, math.MaxUint64, 11},
		{0, math.MaxUint64, 0},
		{0, 1 << 63, 0},
		{0, 1 << 58, 0},
		{0, 1 << 57, 1},
		{0, 1 << 52, 1},
		{0, 1 << 51, 2},
		{0, 1 << 9, 9},
		{0, 1 << 4, 9},
		{0, 1 << 3, 10},
		{0, 1, 10},
		{math.MaxUint64, math.MaxUint64 - 1, 10},
		{1 << 63, 1<<63 | 1<<57 | 1, 1},
	} {
		if n := mix.Common(c.a, c.b); n != c.want {
			t.Errorf("Common(%d, %d): %d, not %d", c.a, c.b, n, c.want)
		}
	}
}

// near are numbers that share many of their first digits with others of them.
func near() []uint64 {
	l := []uint64{0, 1, 2, 15, 16, math.MaxUint64, 1346066267577507604}
	for level := range 10 {
		l = append(l, 1346066267577507604^1<<(58-6*level), 1346066267577507604^3<<(58-6*level))
	}
	return append(l, numbers()[:40]...)
}

// P2.6.
func TestCommonOfThree(t *testing.T) {
	l := near()
	for _, a := range l {
		for _, b := range l {
			ab := mix.Common(a, b)
			if ab != mix.Common(b, a) || (ab == api.Levels) != (a == b) {
				t.Errorf("Common(%d, %d): %d; the other way round: %d", a, b, ab, mix.Common(b, a))
			}
			for _, c := range l {
				if mix.Common(a, c) < min(ab, mix.Common(b, c)) {
					t.Errorf("Common of %d, %d, %d: %d, %d, %d", a, b, c, ab, mix.Common(b, c), mix.Common(a, c))
				}
			}
		}
	}
}

// turnedByWords puts each bit where the chapter's words say.
func turnedByWords(v uint64, n int) uint64 {
	var turned uint64
	for bit := range 64 {
		turned |= v >> bit & 1 << ((bit + n%64 + 64) % 64)
	}
	return turned
}

// P2.3.
func TestTurn(t *testing.T) {
	for _, c := range []struct {
		v    uint64
		n    int
		want uint64
	}{
		{1, 63, 1 << 63},
		{1, -1, 1 << 63},
		{1, 0, 1},
		{1, 1, 2},
		{1, 64, 1},
		{1, 65, 2},
		{1, -64, 1},
		{1, -65, 1 << 63},
		{1 << 63, 1, 1},
		{1, math.MinInt, 1},
		{1, math.MaxInt, 1 << 63},
		{0, 5, 0},
	} {
		if v := mix.Turn(c.v, c.n); v != c.want {
			t.Errorf("Turn(%d, %d): %d, not %d", c.v, c.n, v, c.want)
		}
	}
	for _, v := range numbers() {
		for _, n := range turns() {
			if turned := mix.Turn(v, n); turned != turnedByWords(v, n) {
				t.Errorf("Turn(%d, %d): %d, not %d", v, n, turned, turnedByWords(v, n))
			}
		}
	}
}

// P2.3.
func TestOnes(t *testing.T) {
	for _, c := range []struct {
		v    uint64
		want int
	}{{0, 0}, {1, 1}, {255, 8}, {1 << 63, 1}, {1<<63 | 1, 2}, {math.MaxUint64, 64}} {
		if n := mix.Ones(c.v); n != c.want {
			t.Errorf("Ones(%d): %d, not %d", c.v, n, c.want)
		}
	}
	for _, v := range numbers() {
		if n := mix.Ones(v); n != strings.Count(strconv.FormatUint(v, 2), "1") {
			t.Errorf("Ones(%d): %d", v, n)
		}
	}
}

// P2.7.
func TestTurnTwice(t *testing.T) {
	small := []int{-130, -64, -63, -1, 0, 1, 2, 31, 63, 64, 65, 130}
	for _, v := range numbers() {
		for _, n := range small {
			for _, m := range small {
				if twice, once := mix.Turn(mix.Turn(v, n), m), mix.Turn(v, n+m); twice != once {
					t.Errorf("Turn of %d by %d and by %d: %d, not %d", v, n, m, twice, once)
				}
			}
			if mix.Ones(mix.Turn(v, n)) != mix.Ones(v) {
				t.Errorf("Ones of %d, turned by %d: %d", v, n, mix.Ones(mix.Turn(v, n)))
			}
		}
		if mix.Ones(v)+mix.Ones(^v) != 64 {
			t.Errorf("Ones of %d, and the other way round: %d, %d", v, mix.Ones(v), mix.Ones(^v))
		}
		if mix.Turn(mix.Turn(v, math.MaxInt), math.MinInt) != mix.Turn(v, -1) {
			t.Errorf("Turn of %d by the greatest and by the least", v)
		}
	}
}
