package tests

import (
	"math"
	"testing"

	"loop.example/g00979/impl"
)

const maxWord = 4294967295

// edgeWords lies around the ends of the range and of the halves of a word.
var edgeWords = []int{
	0, 1, 2, 3, 255, 256, 32767, 32768, 65534, 65535, 65536, 65537, 98303, 98304, 131071, 131072,
	1000000000, 2147483647, 2147483648, 4294901759, 4294901760, maxWord - 1, maxWord,
}

// notWords has odd and even numbers, and some whose low 32 bits are those of
// an ordinary word.
var notWords = []int{
	-1, -2, -3, -65535, -65536, -65537, -maxWord, -maxWord - 1, -maxWord - 2,
	maxWord + 1, maxWord + 2, maxWord + 3, 2*maxWord + 1, 2*maxWord + 2, 2*maxWord + 7, 1 << 40, 1<<40 + 5,
	math.MaxInt64, math.MaxInt64 - 1, math.MinInt64, math.MinInt64 + 1,
}

// mixWord is the definition of Mix on 32-bit numbers, which wrap around.
func mixWord(x uint32) uint32 {
	x = (x ^ x>>16) * 73244475
	x = (x ^ x>>16) * 73244475
	return x ^ x>>16
}

// unmixWord undoes mixWord: 295559667 is the inverse of 73244475.
func unmixWord(x uint32) uint32 {
	x = (x ^ x>>16) * 295559667
	x = (x ^ x>>16) * 295559667
	return x ^ x>>16
}

func TestMaxWord(t *testing.T) {
	if impl.MaxWord != maxWord {
		t.Error("the limit differs from the document", impl.MaxWord)
	}
}

func TestIsWord(t *testing.T) {
	for _, x := range edgeWords {
		if !impl.IsWord(x) {
			t.Errorf("IsWord(%d) = false", x)
		}
	}
	for _, x := range notWords {
		if impl.IsWord(x) {
			t.Errorf("IsWord(%d) = true", x)
		}
	}
}

func TestXorWords(t *testing.T) {
	cases := []struct{ a, b, want int }{
		{0, 0, 0},
		{5, 3, 6},
		{3, 5, 6},
		{12, 10, 6},
		{1, 1, 0},
		{0, 7, 7},
		{65535, 65536, 131071},
		{2147483648, 2147483647, maxWord},
		{maxWord, 0, maxWord},
		{0, maxWord, maxWord},
		{maxWord, maxWord, 0},
		{maxWord, 1, maxWord - 1},
		{2863311530, 1431655765, maxWord},
	}
	for _, c := range cases {
		if got := impl.XorWords(c.a, c.b); got != c.want {
			t.Errorf("XorWords(%d, %d) = %d; want %d", c.a, c.b, got, c.want)
		}
	}
	for _, a := range edgeWords {
		for _, b := range edgeWords {
			if got := impl.XorWords(a, b); got != int(uint32(a)^uint32(b)) || impl.XorWords(got, b) != a {
				t.Errorf("XorWords(%d, %d) = %d", a, b, got)
			}
		}
	}
}

func TestXorWordsInvalid(t *testing.T) {
	for _, bad := range notWords {
		for _, x := range edgeWords {
			if got := impl.XorWords(bad, x); got != 0 {
				t.Errorf("XorWords(%d, %d) = %d", bad, x, got)
			}
			if got := impl.XorWords(x, bad); got != 0 {
				t.Errorf("XorWords(%d, %d) = %d", x, bad, got)
			}
		}
		for _, other := range notWords {
			if got := impl.XorWords(bad, other); got != 0 {
				t.Errorf("XorWords(%d, %d) = %d", bad, other, got)
			}
		}
	}
}

func TestLowBit(t *testing.T) {
	cases := []struct{ x, want int }{
		{0, 0}, {1, 1}, {2, 0}, {7, 1}, {8, 0}, {65535, 1}, {65536, 0},
		{2147483647, 1}, {2147483648, 0}, {maxWord - 1, 0}, {maxWord, 1},
	}
	for _, c := range cases {
		if got := impl.LowBit(c.x); got != c.want {
			t.Errorf("LowBit(%d) = %d; want %d", c.x, got, c.want)
		}
	}
	for _, x := range notWords {
		if got := impl.LowBit(x); got != 0 {
			t.Errorf("LowBit(%d) = %d", x, got)
		}
	}
}

func TestMix(t *testing.T) {
	cases := []struct{ x, want int }{
		{0, 0},
		{1, 824515495},
		{2, 1722258072},
		{3, 3753300549},
		{255, 602665863},
		{256, 1480343449},
		{32767, 4122058031},
		{32768, 3988533651},
		{65534, 2398879372},
		{65535, 3392487869},
		{65536, 3572949607},
		{65537, 2131896459},
		{98303, 1646889700},
		{98304, 3479123616},
		{131071, 4113621536},
		{131072, 1300578776},
		{73244475, 124067608},
		{1234567890, 1010678499},
		{2147483647, 3192437470},
		{2147483648, 1029333365},
		{4294901759, 3215731480},
		{4294901760, 225035476},
		{4294967294, 1199205817},
		{4294967295, 539527247},
	}
	for _, c := range cases {
		if got := impl.Mix(c.x); got != c.want {
			t.Errorf("Mix(%d) = %d; want %d", c.x, got, c.want)
		}
	}
}

func TestMixInvalid(t *testing.T) {
	for _, x := range notWords {
		if got := impl.Mix(x); got != 0 {
			t.Errorf("Mix(%d) = %d", x, got)
		}
	}
}

// A word can be computed from its result, so no two words have the same one.
func TestMixCanBeUndone(t *testing.T) {
	check := func(x int) {
		got := impl.Mix(x)
		if got < 0 || got > maxWord || got != int(mixWord(uint32(x))) || int(unmixWord(uint32(got))) != x {
			t.Fatalf("Mix(%d) = %d", x, got)
		}
	}
	for _, x := range edgeWords {
		check(x)
	}
	for x := range 70000 {
		check(x)
		check(maxWord - x)
		check(x * 61357)
	}
	for x := 0; x <= maxWord; x += 4099 {
		check(x)
	}
}

func TestMixOfDifferentWords(t *testing.T) {
	words := map[int]int{}
	add := func(x int) {
		y := impl.Mix(x)
		if other, found := words[y]; found && other != x {
			t.Fatalf("Mix(%d) = Mix(%d) = %d", x, other, y)
		}
		words[y] = x
	}
	for x := range 140000 {
		add(x)
		add(maxWord - x)
	}
	for high := range 65536 {
		add(high * 65536)
		add(high*65536 + high)
		add(high*65536 + 65535 - high)
	}
}

func TestKeyed(t *testing.T) {
	cases := []struct{ key, a, b, want int }{
		{0, 0, 0, 0},
		{0, 0, 1, 824515495},
		{0, 1, 0, 379550018},
		{1, 0, 0, 1951007317},
		{1, 2, 3, 1199109462},
		{3, 2, 1, 2902070696},
		{2, 1, 3, 3408045802},
		{1, 3, 2, 1764401533},
		{77, 5, 65535, 3565231348},
		{65535, 21, 0, 999374131},
		{12345, 7, 1000000, 2293112485},
		{maxWord, 0, 0, 3821858595},
		{0, maxWord, 0, 4196341163},
		{0, 0, maxWord, 539527247},
		{maxWord, maxWord, maxWord, 3580544808},
		{65536, 98304, 131071, 2956088390},
		{2147483648, 2147483647, 1, 2931885199},
	}
	for _, c := range cases {
		if got := impl.Keyed(c.key, c.a, c.b); got != c.want {
			t.Errorf("Keyed(%d, %d, %d) = %d; want %d", c.key, c.a, c.b, got, c.want)
		}
	}
}

func TestKeyedOfEdgeWords(t *testing.T) {
	for _, key := range edgeWords {
		for _, a := range edgeWords {
			for _, b := range edgeWords {
				want := int(mixWord(mixWord(mixWord(uint32(key))^uint32(a)) ^ uint32(b)))
				if got := impl.Keyed(key, a, b); got != want {
					t.Fatalf("Keyed(%d, %d, %d) = %d; want %d", key, a, b, got, want)
				}
			}
		}
	}
}

func TestKeyedInvalid(t *testing.T) {
	check := func(key, a, b int) {
		if got := impl.Keyed(key, a, b); got != 0 {
			t.Errorf("Keyed(%d, %d, %d) = %d", key, a, b, got)
		}
	}
	for _, bad := range notWords {
		for _, x := range edgeWords {
			for _, y := range []int{0, 1, 65536, maxWord} {
				check(bad, x, y)
				check(x, bad, y)
				check(x, y, bad)
			}
		}
		for _, other := range notWords {
			check(bad, other, 5)
			check(bad, 5, other)
			check(5, bad, other)
			check(bad, other, bad)
		}
	}
}

// keysAndFirsts are the pairs of a key and a first word of the tests of
// different second words.
var keysAndFirsts = [][2]int{{0, 0}, {1, 0}, {0, 1}, {77, 5}, {65535, 21}, {65536, 65535}, {maxWord, 7}, {9, maxWord}, {maxWord, maxWord}}

func TestKeyedOfDifferentWords(t *testing.T) {
	for _, pair := range keysAndFirsts {
		words := map[int]int{}
		add := func(b int) {
			y := impl.Keyed(pair[0], pair[1], b)
			if other, found := words[y]; found && other != b {
				t.Fatalf("Keyed(%d, %d, b) = %d for b = %d and %d", pair[0], pair[1], y, b, other)
			}
			words[y] = b
		}
		for b := range 20000 {
			add(b)
			add(maxWord - b)
			add(b * 65537)
			add(b * 131072)
		}
		for _, b := range edgeWords {
			add(b)
		}
	}
}

// For a key and a first word, every word is the result of exactly one second
// word; 0, the result for invalid arguments, is one of them.
func TestKeyedCanBeUndone(t *testing.T) {
	for _, pair := range keysAndFirsts {
		inner := mixWord(mixWord(uint32(pair[0])) ^ uint32(pair[1]))
		for _, want := range edgeWords {
			b := int(unmixWord(uint32(want)) ^ inner)
			if got := impl.Keyed(pair[0], pair[1], b); got != want {
				t.Errorf("Keyed(%d, %d, %d) = %d; want %d", pair[0], pair[1], b, got, want)
			}
		}
	}
}
