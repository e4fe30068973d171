package tests

import (
	"math"
	"slices"
	"strconv"
	"strings"
	"testing"

	"loop.example/g00979/impl"
)

func TestTextLimits(t *testing.T) {
	if impl.MaxInputLen != 20000 || impl.MaxUint != 1000000000 || impl.MaxLineLen != 600 || impl.MaxFieldsPerLine != 24 {
		t.Error("a limit differs from the document", impl.MaxInputLen, impl.MaxUint, impl.MaxLineLen, impl.MaxFieldsPerLine)
	}
}

func TestEncodeHex(t *testing.T) {
	cases := []struct{ in, want string }{
		{"", ""},
		{"az", "617a"},
		{"\x00", "00"},
		{"\x0f\xf0", "0ff0"},
		{"\x01\x23\x45\x67\x89\xab\xcd\xef", "0123456789abcdef"},
		{"é\xff\n", "c3a9ff0a"},
	}
	for _, c := range cases {
		if got, ok := impl.EncodeHex(c.in); got != c.want || !ok {
			t.Errorf("EncodeHex(%q) = %q, %v; want %q", c.in, got, ok, c.want)
		}
	}
}

func TestEncodeHexLimit(t *testing.T) {
	got, ok := impl.EncodeHex(strings.Repeat("k", 20000))
	if !ok || got != strings.Repeat("6b", 20000) {
		t.Error("20000 bytes are not encoded", len(got), ok)
	}
	for _, n := range []int{20001, 20002, 40000} {
		if got, ok := impl.EncodeHex(strings.Repeat("k", n)); got != "" || ok {
			t.Error("too many bytes are encoded", n, len(got), ok)
		}
	}
}

func TestDecodeHex(t *testing.T) {
	cases := []struct{ in, want string }{
		{"", ""},
		{"617a", "az"},
		{"00", "\x00"},
		{"0ff0", "\x0f\xf0"},
		{"0123456789abcdef", "\x01\x23\x45\x67\x89\xab\xcd\xef"},
	}
	for _, c := range cases {
		if got, ok := impl.DecodeHex(c.in); got != c.want || !ok {
			t.Errorf("DecodeHex(%q) = %q, %v; want %q", c.in, got, ok, c.want)
		}
	}
}

func TestDecodeHexInvalid(t *testing.T) {
	for _, s := range []string{
		"6", "617", "617a6", "F0", "0F", "617A", "aBcd", "6g", "g6", "0x61", "-1", "+1",
		" 61", "61 ", "6 1", "61 7a", "61\n", "\n\n", "\x00\x00", "é", "６１", "6171zz",
	} {
		if got, ok := impl.DecodeHex(s); got != "" || ok {
			t.Errorf("DecodeHex(%q) = %q, %v", s, got, ok)
		}
	}
}

func TestDecodeHexLimit(t *testing.T) {
	got, ok := impl.DecodeHex(strings.Repeat("6b", 20000))
	if !ok || got != strings.Repeat("k", 20000) {
		t.Error("a result of 20000 bytes is not decoded", len(got), ok)
	}
	for _, n := range []int{39999, 40001, 40002, 80000} {
		if got, ok := impl.DecodeHex(strings.Repeat("6", n)); got != "" || ok {
			t.Error("a wrong number of digits is decoded", n, len(got), ok)
		}
	}
}

// Every pair of bytes is either the encoding of exactly one byte or invalid.
func TestHexOfEveryByte(t *testing.T) {
	byText := map[string]string{}
	for b := range 256 {
		one := string([]byte{byte(b)})
		text, ok := impl.EncodeHex(one)
		if !ok || len(text) != 2 {
			t.Fatalf("EncodeHex(%q) = %q, %v", one, text, ok)
		}
		byText[text] = one
	}
	if len(byText) != 256 {
		t.Fatal("two bytes have the same encoding")
	}
	for pair := range 65536 {
		text := string([]byte{byte(pair / 256), byte(pair % 256)})
		want, valid := byText[text]
		if got, ok := impl.DecodeHex(text); got != want || ok != valid {
			t.Fatalf("DecodeHex(%q) = %q, %v; want %q, %v", text, got, ok, want, valid)
		}
	}
}

func TestHexInvalidByteAtEveryPlace(t *testing.T) {
	valid := "00112233aabbccff"
	for i := range len(valid) {
		for _, bad := range []byte("G/:`gA \x00\xff") {
			text := []byte(valid)
			text[i] = bad
			if got, ok := impl.DecodeHex(string(text)); got != "" || ok {
				t.Errorf("DecodeHex(%q) = %q, %v", text, got, ok)
			}
		}
	}
}

func TestHexRoundTrip(t *testing.T) {
	all := make([]byte, 0, 20000)
	for i := range 20000 {
		all = append(all, byte(i*i+7*i))
	}
	for _, n := range []int{0, 1, 2, 255, 256, 1000, 19999, 20000} {
		text, ok := impl.EncodeHex(string(all[:n]))
		back, right := impl.DecodeHex(text)
		if !ok || !right || len(text) != 2*n || back != string(all[:n]) {
			t.Error("decoding does not give the string back", n, ok, right)
		}
	}
}

func TestFormatInt(t *testing.T) {
	cases := []struct {
		n    int
		want string
	}{
		{0, "0"},
		{1, "1"},
		{-1, "-1"},
		{9, "9"},
		{10, "10"},
		{-10, "-10"},
		{100200, "100200"},
		{1000000000, "1000000000"},
		{-1000000001, "-1000000001"},
		{math.MaxInt64, "9223372036854775807"},
		{math.MinInt64, "-9223372036854775808"},
		{math.MinInt64 + 1, "-9223372036854775807"},
	}
	for _, c := range cases {
		if got := impl.FormatInt(c.n); got != c.want {
			t.Errorf("FormatInt(%d) = %q; want %q", c.n, got, c.want)
		}
	}
}

func TestParseUint(t *testing.T) {
	cases := []struct {
		in   string
		want int
	}{
		{"0", 0},
		{"1", 1},
		{"9", 9},
		{"10", 10},
		{"100", 100},
		{"20000", 20000},
		{"123456789", 123456789},
		{"987654321", 987654321},
		{"999999999", 999999999},
		{"1000000000", 1000000000},
	}
	for _, c := range cases {
		if got, ok := impl.ParseUint(c.in); got != c.want || !ok {
			t.Errorf("ParseUint(%q) = %d, %v; want %d", c.in, got, ok, c.want)
		}
	}
}

func TestParseUintInvalid(t *testing.T) {
	for _, s := range []string{
		"", "-", "+", " ", "00", "01", "007", "0000000001", "01000000000", "-0", "+0", "-1", "+1", "-01", "--1",
		"1000000001", "1000000010", "2000000000", "9999999999", "10000000000",
		"4294967296", "9223372036854775807", "9223372036854775808", "18446744073709551616", "18446744073709551617",
		"-1000000000", "-9223372036854775808", "-9223372036854775809",
		" 1", "1 ", "1 2", "\t1", "1\n", "1\x00", "1_0", "1_000", "1,000", "1.0", "1.", ".5", "1e3",
		"0x1", "0b1", "0o7", "0xff", "a", "1a", "a1", "/", ":", "١", "１",
		strings.Repeat("0", 20000), strings.Repeat("9", 20000), "1" + strings.Repeat("0", 20000),
	} {
		if got, ok := impl.ParseUint(s); got != 0 || ok {
			t.Errorf("ParseUint(%.40q) = %d, %v", s, got, ok)
		}
	}
}

// Of all strings of up to two bytes, only the texts of 0 to 99 are numbers.
func TestParseUintShortStrings(t *testing.T) {
	numbers := map[string]int{}
	for n := range 100 {
		numbers[strconv.Itoa(n)] = n
	}
	check := func(text string) {
		want, valid := numbers[text]
		if got, ok := impl.ParseUint(text); got != want || ok != valid {
			t.Fatalf("ParseUint(%q) = %d, %v; want %d, %v", text, got, ok, want, valid)
		}
	}
	for a := range 256 {
		check(string([]byte{byte(a)}))
		for b := range 256 {
			check(string([]byte{byte(a), byte(b)}))
		}
	}
}

func TestNumberRoundTrip(t *testing.T) {
	check := func(n int) {
		text := impl.FormatInt(n)
		if got, ok := impl.ParseUint(text); text != strconv.Itoa(n) || got != n || !ok {
			t.Fatalf("%d is written as %q and read as %d, %v", n, text, got, ok)
		}
		if got, ok := impl.ParseUint("0" + text); got != 0 || ok {
			t.Fatalf("ParseUint(%q) = %d, %v", "0"+text, got, ok)
		}
		if got, ok := impl.ParseUint(impl.FormatInt(-n - 1)); got != 0 || ok {
			t.Fatalf("ParseUint(%q) = %d, %v", impl.FormatInt(-n-1), got, ok)
		}
	}
	for n := range 12000 {
		check(n)
		check(1000000000 - n)
	}
	for n := 1; n < 1000000000; n = 3*n + 1 {
		check(n)
	}
}

func TestSplitFields(t *testing.T) {
	cases := []struct {
		line string
		want []string
	}{
		{"", nil},
		{" ", nil},
		{"     ", nil},
		{"a", []string{"a"}},
		{" a", []string{"a"}},
		{"a ", []string{"a"}},
		{" step  1 ", []string{"step", "1"}},
		{"a b c", []string{"a", "b", "c"}},
		{"   one   two   three   ", []string{"one", "two", "three"}},
		{"same same", []string{"same", "same"}},
		{"!~ ~! \"'\\", []string{"!~", "~!", "\"'\\"}},
	}
	for _, c := range cases {
		if got, ok := impl.SplitFields(c.line); !slices.Equal(got, c.want) || !ok {
			t.Errorf("SplitFields(%q) = %q, %v; want %q", c.line, got, ok, c.want)
		}
	}
}

func TestSplitFieldsOfEveryByte(t *testing.T) {
	for b := range 256 {
		c := string([]byte{byte(b)})
		valid := b >= 32 && b <= 126
		for _, line := range []string{c, c + "xy", "x" + c + "y", "xy" + c, "x " + c + " y", c + " x", "x " + c, strings.Repeat("x", 599) + c} {
			var want []string
			if valid {
				want = strings.Fields(line)
			}
			if got, ok := impl.SplitFields(line); !slices.Equal(got, want) || ok != valid {
				t.Errorf("SplitFields(%q) = %q, %v; want %q, %v", line, got, ok, want, valid)
			}
		}
	}
}

func TestSplitFieldsInvalid(t *testing.T) {
	for _, line := range []string{
		"\t", "a\tb", "a\n", "\na", "a\r", "a\x1fb", "a\x7fb", "é", "a \u00a0 b", "a\x80", "\xff", "\x00",
		strings.Repeat("a ", 24) + "\t", strings.Repeat("a ", 25) + "\t",
	} {
		if got, ok := impl.SplitFields(line); len(got) != 0 || ok {
			t.Errorf("SplitFields(%q) = %q, %v", line, got, ok)
		}
	}
}

func TestSplitFieldsLineLimit(t *testing.T) {
	cases := []struct {
		line string
		want []string
	}{
		{strings.Repeat("a", 600), []string{strings.Repeat("a", 600)}},
		{strings.Repeat(" ", 600), nil},
		{"a" + strings.Repeat(" ", 598) + "b", []string{"a", "b"}},
		{strings.Repeat(" ", 599) + "a", []string{"a"}},
	}
	for _, c := range cases {
		if got, ok := impl.SplitFields(c.line); !slices.Equal(got, c.want) || !ok {
			t.Errorf("SplitFields of a line of 600 bytes = %q, %v; want %q", got, ok, c.want)
		}
	}
	for _, line := range []string{
		strings.Repeat("a", 601), strings.Repeat(" ", 601), "a" + strings.Repeat(" ", 600), strings.Repeat(" ", 600) + "a",
	} {
		if got, ok := impl.SplitFields(line); len(got) != 0 || ok {
			t.Errorf("SplitFields of a line of 601 bytes = %q, %v", got, ok)
		}
	}
}

func TestSplitFieldsFieldLimit(t *testing.T) {
	for n := range 40 {
		for _, field := range []string{"a", "field"} {
			list := slices.Repeat([]string{field}, n)
			var want []string
			if n <= 24 {
				want = list
			}
			for _, line := range []string{strings.Join(list, " "), "  " + strings.Join(list, "  ") + "  "} {
				if got, ok := impl.SplitFields(line); !slices.Equal(got, want) || ok != (n <= 24) {
					t.Errorf("SplitFields(%q) = %q, %v for %d fields", line, got, ok, n)
				}
			}
		}
	}
}

// A result is new memory, and no call keeps anything for the next one.
func TestSplitFieldsResultsAreIndependent(t *testing.T) {
	first, _ := impl.SplitFields("a b")
	first[0], first[1] = "x", "y"
	impl.SplitFields("p q r \n")
	second, ok := impl.SplitFields("a b")
	if !ok || !slices.Equal(second, []string{"a", "b"}) || !slices.Equal(first, []string{"x", "y"}) {
		t.Error("two results are not independent", first, second, ok)
	}
}

func TestClamp(t *testing.T) {
	cases := []struct{ n, low, high, want int }{
		{9, 1, 5, 5},
		{-9, 1, 5, 1},
		{3, 1, 5, 3},
		{1, 1, 5, 1},
		{5, 1, 5, 5},
		{0, -5, -1, -1},
		{7, 4, 4, 4},
		{1, 4, 4, 4},
		{3, 5, 1, 5},
		{0, 5, 1, 5},
		{9, 5, 1, 5},
		{math.MaxInt64, math.MinInt64, math.MaxInt64, math.MaxInt64},
		{math.MinInt64, math.MinInt64, math.MaxInt64, math.MinInt64},
		{math.MaxInt64, -1, 1, 1},
		{math.MinInt64, -1, 1, -1},
		{0, math.MaxInt64, math.MinInt64, math.MaxInt64},
		{0, math.MinInt64, math.MinInt64, math.MinInt64},
		{0, math.MaxInt64, math.MaxInt64, math.MaxInt64},
	}
	for _, c := range cases {
		if got := impl.Clamp(c.n, c.low, c.high); got != c.want {
			t.Errorf("Clamp(%d, %d, %d) = %d; want %d", c.n, c.low, c.high, got, c.want)
		}
	}
}

func TestClampIsInRange(t *testing.T) {
	numbers := []int{math.MinInt64, math.MinInt64 + 1, -3, -2, -1, 0, 1, 2, 3, math.MaxInt64 - 1, math.MaxInt64}
	for _, n := range numbers {
		for _, low := range numbers {
			for _, high := range numbers {
				got := impl.Clamp(n, low, high)
				inside := low <= n && n <= high
				switch {
				case high < low && got != low,
					high >= low && (got < low || got > high),
					inside && got != n,
					high >= low && n > high && got != high,
					high >= low && n < low && got != low:
					t.Errorf("Clamp(%d, %d, %d) = %d", n, low, high, got)
				}
			}
		}
	}
}
