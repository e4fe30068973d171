package tests

import (
	"math"
	"slices"
	"testing"

	"loop.example/g00979/impl"
)

const (
	maxTapeAt   = 1000000
	maxTapeN    = 65536
	maxTapeList = 1000
	maxFork     = 1000000
)

// edgeAts are positions of valid tapes, the last of which has no word left.
var edgeAts = []int{0, 1, 2, 255, 256, 65535, 65536, 65537, 500000, maxTapeAt - maxTapeList, maxTapeAt - 2, maxTapeAt - 1, maxTapeAt}

// notAts are no positions, also some whose low 32 bits are one.
var notAts = []int{
	-1, -2, -maxTapeAt, -1 << 32, -1<<32 + 5, maxTapeAt + 1, maxTapeAt + 2, 2 * maxTapeAt, 1 << 32, 1<<32 + 5,
	math.MaxInt64, math.MaxInt64 - 1, math.MinInt64, math.MinInt64 + 1,
}

// edgeBelows are numbers below which a tape can be read.
var edgeBelows = []int{1, 2, 3, 10, 97, 101, 255, 256, 257, 65535, maxTapeN}

// notBelows are none, also some whose low bits are one.
var notBelows = []int{
	0, -1, -2, -10, -maxTapeN, maxTapeN + 1, maxTapeN + 2, 2 * maxTapeN, 1 << 32, 1<<32 + 1,
	math.MaxInt64, math.MaxInt64 - 1, math.MinInt64, math.MinInt64 + 1,
}

// notLengths are no lengths of lists, also some that make At + k overflow.
var notLengths = []int{
	-1, -2, -maxTapeList, maxTapeList + 1, maxTapeList + 2, 65536, maxTapeAt, 1 << 32, 1<<32 + 1,
	math.MaxInt64, math.MaxInt64 - 1, math.MaxInt64 - maxTapeAt, math.MinInt64, math.MinInt64 + 1,
}

// notForks are no numbers of forks.
var notForks = []int{
	-1, -2, -maxFork, maxFork + 1, maxFork + 2, maxWord, 1 << 32, 1<<32 + 1,
	math.MaxInt64, math.MaxInt64 - 1, math.MinInt64, math.MinInt64 + 1,
}

// tapeWord is the definition of the word of a tape at a position.
func tapeWord(seed int, at int) int {
	return int(mixWord(mixWord(mixWord(uint32(seed))^7) ^ uint32(at)))
}

// forkSeed is the definition of the seed of a fork.
func forkSeed(seed int, n int) int {
	return int(mixWord(mixWord(mixWord(uint32(seed))^9) ^ uint32(n)))
}

// tapeList is the definition of the numbers below n of a tape.
func tapeList(tape impl.Tape, n int, k int) []int {
	list := []int{}
	for i := range k {
		list = append(list, tapeWord(tape.Seed, tape.At+i)/256%n)
	}
	return list
}

// invalidTapes returns tapes with an invalid Seed, At or both.
func invalidTapes() []impl.Tape {
	tapes := []impl.Tape{}
	for _, seed := range notWords {
		for _, at := range edgeAts {
			tapes = append(tapes, impl.Tape{Seed: seed, At: at})
		}
		for _, at := range notAts {
			tapes = append(tapes, impl.Tape{Seed: seed, At: at})
		}
	}
	for _, seed := range edgeWords {
		for _, at := range notAts {
			tapes = append(tapes, impl.Tape{Seed: seed, At: at})
		}
	}
	return tapes
}

// validTapes returns tapes of all edge words at all edge positions.
func validTapes() []impl.Tape {
	tapes := []impl.Tape{}
	for _, seed := range edgeWords {
		for _, at := range edgeAts {
			tapes = append(tapes, impl.Tape{Seed: seed, At: at})
		}
	}
	return tapes
}

func TestTapeOk(t *testing.T) {
	for _, tape := range validTapes() {
		if !impl.TapeOk(tape) {
			t.Errorf("TapeOk(%v) = false", tape)
		}
	}
	for _, tape := range invalidTapes() {
		if impl.TapeOk(tape) {
			t.Errorf("TapeOk(%v) = true", tape)
		}
	}
	if !impl.TapeOk(impl.Tape{}) {
		t.Error("the zero tape is not valid")
	}
}

func TestTapeWord(t *testing.T) {
	cases := []struct{ seed, at, want int }{
		{0, 0, 4146382981},
		{0, 1, 1575283522},
		{5, 0, 2428814761},
		{5, 1, 345057611},
		{5, 2, 547754302},
		{65535, 65536, 2695841102},
		{65536, 65535, 179734134},
		{77, 123456, 123903793},
		{2147483648, 500000, 4132428582},
		{maxWord, 0, 317720597},
		{1, 999998, 2482631958},
		{1, 999999, 3730634892},
		{0, 999999, 2307538939},
		{maxWord, 999999, 3929861241},
	}
	for _, c := range cases {
		word, after := impl.TapeWord(impl.Tape{Seed: c.seed, At: c.at})
		if word != c.want || after != (impl.Tape{Seed: c.seed, At: c.at + 1}) {
			t.Errorf("TapeWord of %d at %d = %d, %v; want %d", c.seed, c.at, word, after, c.want)
		}
	}
}

func TestTapeWordOfEdgeTapes(t *testing.T) {
	for _, tape := range validTapes() {
		word, after := impl.TapeWord(tape)
		want, wantAfter := tapeWord(tape.Seed, tape.At), impl.Tape{Seed: tape.Seed, At: tape.At + 1}
		if tape.At == maxTapeAt {
			want, wantAfter = 0, tape
		}
		if word != want || after != wantAfter {
			t.Errorf("TapeWord(%v) = %d, %v; want %d, %v", tape, word, after, want, wantAfter)
		}
	}
}

// A tape has exactly maxTapeAt words, and they are those of Keyed.
func TestTapeWordToTheEnd(t *testing.T) {
	tape, read := impl.Tape{Seed: 12345}, 0
	for tape.At < maxTapeAt {
		word, after := impl.TapeWord(tape)
		if word != impl.Keyed(12345, 7, read) || after != (impl.Tape{Seed: 12345, At: read + 1}) {
			t.Fatalf("TapeWord(%v) = %d, %v", tape, word, after)
		}
		tape, read = after, read+1
	}
	if read != maxTapeAt {
		t.Error("unexpected number of words", read)
	}
	if word, after := impl.TapeWord(tape); word != 0 || after != tape {
		t.Errorf("TapeWord(%v) = %d, %v after the last word", tape, word, after)
	}
}

func TestTapeWordInvalid(t *testing.T) {
	for _, tape := range invalidTapes() {
		if word, after := impl.TapeWord(tape); word != 0 || after != tape {
			t.Errorf("TapeWord(%v) = %d, %v", tape, word, after)
		}
	}
}

func TestTapeBelow(t *testing.T) {
	cases := []struct{ seed, at, n, want int }{
		{0, 0, 10, 8},
		{5, 0, 10, 7},
		{5, 0, 1, 0},
		{5, 0, 2, 1},
		{5, 0, 65535, 50517},
		{5, 0, 65536, 50373},
		{1, 999999, 97, 94},
		{maxWord, 0, 65536, 61448},
		{maxWord, 999999, 65535, 15830},
		{77, 123456, 256, 159},
		{2147483648, 500000, 101, 75},
		{65536, 65535, 3, 2},
	}
	for _, c := range cases {
		number, after := impl.TapeBelow(impl.Tape{Seed: c.seed, At: c.at}, c.n)
		if number != c.want || after != (impl.Tape{Seed: c.seed, At: c.at + 1}) {
			t.Errorf("TapeBelow of %d at %d for %d = %d, %v; want %d", c.seed, c.at, c.n, number, after, c.want)
		}
	}
}

func TestTapeBelowOfEdgeTapes(t *testing.T) {
	for _, tape := range validTapes() {
		for _, n := range edgeBelows {
			number, after := impl.TapeBelow(tape, n)
			want, wantAfter := tapeWord(tape.Seed, tape.At)/256%n, impl.Tape{Seed: tape.Seed, At: tape.At + 1}
			if tape.At == maxTapeAt {
				want, wantAfter = 0, tape
			}
			if number != want || after != wantAfter {
				t.Errorf("TapeBelow(%v, %d) = %d, %v; want %d, %v", tape, n, number, after, want, wantAfter)
			}
		}
	}
}

func TestTapeBelowOfAllNumbers(t *testing.T) {
	tape := impl.Tape{Seed: 31}
	for n := 1; n <= maxTapeN; n++ {
		number, after := impl.TapeBelow(tape, n)
		if number != tapeWord(31, tape.At)/256%n || number < 0 || number >= n || after != (impl.Tape{Seed: 31, At: n}) {
			t.Fatalf("TapeBelow(%v, %d) = %d, %v", tape, n, number, after)
		}
		tape = after
	}
}

func TestTapeBelowInvalid(t *testing.T) {
	check := func(tape impl.Tape, n int) {
		if number, after := impl.TapeBelow(tape, n); number != 0 || after != tape {
			t.Errorf("TapeBelow(%v, %d) = %d, %v", tape, n, number, after)
		}
	}
	for _, tape := range invalidTapes() {
		check(tape, 1)
		check(tape, 101)
		check(tape, maxTapeN)
		check(tape, 0)
		check(tape, maxTapeN+1)
	}
	for _, tape := range validTapes() {
		for _, n := range notBelows {
			check(tape, n)
		}
	}
}

func TestTapeList(t *testing.T) {
	cases := []struct {
		seed, at, n, k int
		want           []int
	}{
		{5, 0, 10, 0, nil},
		{5, 0, 10, 1, []int{7}},
		{5, 0, 10, 5, []int{7, 1, 5, 4, 8}},
		{5, 2, 10, 3, []int{5, 4, 8}},
		{0, 0, 65536, 3, []int{9416, 58603, 11530}},
		{77, 123456, 2, 8, []int{1, 1, 0, 0, 0, 1, 0, 1}},
		{9, 9, 1, 3, []int{0, 0, 0}},
		{maxWord, 999996, 101, 4, []int{97, 25, 99, 30}},
		{1, 999999, 65535, 1, []int{24022}},
		{1, 1000000, 65535, 0, nil},
	}
	for _, c := range cases {
		list, after := impl.TapeList(impl.Tape{Seed: c.seed, At: c.at}, c.n, c.k)
		if !slices.Equal(list, c.want) || after != (impl.Tape{Seed: c.seed, At: c.at + c.k}) {
			t.Errorf("TapeList of %d at %d for %d, %d = %v, %v; want %v", c.seed, c.at, c.n, c.k, list, after, c.want)
		}
	}
}

// Every length is accepted up to the end of the tape, and not past it.
func TestTapeListOfEdgeTapes(t *testing.T) {
	for _, tape := range validTapes() {
		left := maxTapeAt - tape.At
		for _, k := range []int{0, 1, 2, 3, 10, maxTapeList - 1, maxTapeList, left - 1, left, left + 1} {
			if k < 0 || k > maxTapeList {
				continue
			}
			for _, n := range []int{1, 2, 101, 65535, maxTapeN} {
				want, wantAfter := tapeList(tape, n, k), impl.Tape{Seed: tape.Seed, At: tape.At + k}
				if k > left {
					want, wantAfter = nil, tape
				}
				if list, after := impl.TapeList(tape, n, k); !slices.Equal(list, want) || after != wantAfter {
					t.Fatalf("TapeList(%v, %d, %d) = %v, %v", tape, n, k, list, after)
				}
			}
		}
	}
}

func TestTapeListAtTheLimit(t *testing.T) {
	for k := range maxTapeList + 1 {
		tape := impl.Tape{Seed: 8, At: maxTapeAt - k}
		if list, after := impl.TapeList(tape, 97, k); !slices.Equal(list, tapeList(tape, 97, k)) || after != (impl.Tape{Seed: 8, At: maxTapeAt}) {
			t.Errorf("TapeList(%v, 97, %d) = %v, %v", tape, k, list, after)
		}
		past := impl.Tape{Seed: 8, At: maxTapeAt - k + 1}
		if list, after := impl.TapeList(past, 97, k); len(list) != 0 || after != past {
			t.Errorf("TapeList(%v, 97, %d) = %v, %v", past, k, list, after)
		}
	}
}

func TestTapeListInvalid(t *testing.T) {
	check := func(tape impl.Tape, n int, k int) {
		if list, after := impl.TapeList(tape, n, k); len(list) != 0 || after != tape {
			t.Errorf("TapeList(%v, %d, %d) = %v, %v", tape, n, k, list, after)
		}
	}
	for _, tape := range invalidTapes() {
		for _, k := range []int{0, 1, 2, maxTapeList, maxTapeList + 1, -1} {
			check(tape, 101, k)
			check(tape, 1, k)
			check(tape, 0, k)
		}
	}
	for _, tape := range validTapes() {
		for _, n := range notBelows {
			check(tape, n, 0)
			check(tape, n, 1)
			check(tape, n, maxTapeList)
			check(tape, n, -1)
		}
		for _, k := range notLengths {
			check(tape, 1, k)
			check(tape, 10, k)
			check(tape, maxTapeN, k)
			check(tape, 0, k)
		}
	}
}

// The numbers are the same again: one after the other, in one list, in lists
// of any lengths one after the other, and from a position in the middle.
func TestTapeAgain(t *testing.T) {
	for _, start := range []impl.Tape{{}, {Seed: 5}, {Seed: maxWord, At: 17}, {Seed: 65536, At: 499000}, {Seed: 2, At: maxTapeAt - maxTapeList}} {
		for _, n := range edgeBelows {
			whole, end := impl.TapeList(start, n, maxTapeList)
			if again, endAgain := impl.TapeList(start, n, maxTapeList); !slices.Equal(again, whole) || endAgain != end || len(whole) != maxTapeList {
				t.Fatalf("TapeList(%v, %d, %d) differs in the second call", start, n, maxTapeList)
			}
			tape := start
			for i := range whole {
				word, afterWord := impl.TapeWord(tape)
				number, after := impl.TapeBelow(tape, n)
				if number != whole[i] || number != word/256%n || after != afterWord {
					t.Fatalf("TapeBelow(%v, %d) = %d, %v; want %d", tape, n, number, after, whole[i])
				}
				tape = after
			}
			if tape != end {
				t.Fatalf("the tape after %d numbers is %v and not %v", maxTapeList, tape, end)
			}
			parts, tape := []int{}, start
			for k := 0; len(parts) < maxTapeList; k++ {
				part, after := impl.TapeList(tape, n, min(k, maxTapeList-len(parts)))
				parts, tape = append(parts, part...), after
			}
			if !slices.Equal(parts, whole) || tape != end {
				t.Fatalf("parts of %v below %d differ from the whole list", start, n)
			}
		}
	}
}

// Tapes that are read in turn do not influence each other.
func TestTapesInTurn(t *testing.T) {
	tapes := []impl.Tape{{Seed: 1}, {Seed: 2}, {Seed: 1}, {Seed: 1, At: 500}, impl.TapeFork(impl.Tape{Seed: 1}, 0)}
	starts := slices.Clone(tapes)
	read := make([][]int, len(tapes))
	for i := range 900 {
		for j := range tapes {
			n, number := 1+i%101, 0
			if (i+j)%3 == 0 {
				impl.TapeList(tapes[j], n, 7)
				impl.TapeFork(tapes[j], i)
			}
			number, tapes[j] = impl.TapeBelow(tapes[j], n)
			read[j] = append(read[j], number)
		}
	}
	for j, start := range starts {
		for i, number := range read[j] {
			if want := tapeWord(start.Seed, start.At+i) / 256 % (1 + i%101); number != want {
				t.Fatalf("number %d of tape %d is %d; want %d", i, j, number, want)
			}
		}
	}
	if !slices.Equal(read[0], read[2]) || slices.Equal(read[0], read[1]) || slices.Equal(read[0], read[3]) || slices.Equal(read[0], read[4]) {
		t.Error("exactly the first and the third tape should have the same numbers")
	}
}

// A list is new memory: what the caller writes there, or behind it, is not
// seen by another call.
func TestTapeListIsNew(t *testing.T) {
	tape := impl.Tape{Seed: 3, At: 30}
	first, _ := impl.TapeList(tape, 101, 20)
	second, _ := impl.TapeList(tape, 101, 20)
	want := tapeList(tape, 101, 20)
	whole := first[:cap(first)]
	for i := range whole {
		whole[i] = -1
	}
	third, _ := impl.TapeList(tape, 101, 20)
	if !slices.Equal(second, want) || !slices.Equal(third, want) {
		t.Error("lists share memory", second, third, want)
	}
}

func TestTapeFork(t *testing.T) {
	cases := []struct{ seed, n, want int }{
		{0, 0, 3334362505},
		{0, 1, 2534134907},
		{0, 1000000, 2771261802},
		{5, 0, 2358857622},
		{5, 3, 3792086740},
		{5, 999999, 1809307953},
		{5, 1000000, 3535608167},
		{65536, 65535, 976061792},
		{2147483648, 65536, 3648000289},
		{maxWord, 0, 4293673052},
		{maxWord, 1000000, 1493106279},
	}
	for _, c := range cases {
		for _, at := range edgeAts {
			if got := impl.TapeFork(impl.Tape{Seed: c.seed, At: at}, c.n); got != (impl.Tape{Seed: c.want}) {
				t.Errorf("TapeFork of %d at %d for %d = %v; want %d", c.seed, at, c.n, got, c.want)
			}
		}
	}
	for _, tape := range validTapes() {
		for _, n := range []int{0, 1, 2, 65535, 65536, maxFork - 1, maxFork} {
			if got := impl.TapeFork(tape, n); got != (impl.Tape{Seed: forkSeed(tape.Seed, n)}) || !impl.TapeOk(got) {
				t.Errorf("TapeFork(%v, %d) = %v", tape, n, got)
			}
		}
	}
}

// Forks of different numbers, and forks of tapes with different seeds, differ.
func TestTapeForksDiffer(t *testing.T) {
	for _, seed := range []int{0, maxWord} {
		seeds := make([]int, 0, maxFork+1)
		for n := range maxFork + 1 {
			seeds = append(seeds, impl.TapeFork(impl.Tape{Seed: seed}, n).Seed)
		}
		slices.Sort(seeds)
		if different := len(slices.Compact(seeds)); different != maxFork+1 {
			t.Errorf("the forks of %d have %d different seeds", seed, different)
		}
	}
	for _, n := range []int{0, 1, maxFork} {
		seeds := []int{}
		for seed := range 100000 {
			seeds = append(seeds, impl.TapeFork(impl.Tape{Seed: seed * 42949}, n).Seed)
		}
		slices.Sort(seeds)
		if different := len(slices.Compact(seeds)); different != 100000 {
			t.Errorf("the forks with the number %d have %d different seeds", n, different)
		}
	}
}

// A fork is a tape of its own, which can be forked again.
func TestTapeForkOfFork(t *testing.T) {
	tape := impl.Tape{Seed: 5, At: 12}
	fork := impl.TapeFork(impl.TapeFork(tape, 3), 4)
	want := forkSeed(forkSeed(5, 3), 4)
	if fork != (impl.Tape{Seed: want}) || fork == impl.TapeFork(impl.TapeFork(tape, 4), 3) {
		t.Error("unexpected fork", fork, want)
	}
	list, after := impl.TapeList(fork, 65536, 100)
	if !slices.Equal(list, tapeList(fork, 65536, 100)) || after != (impl.Tape{Seed: want, At: 100}) {
		t.Error("unexpected list", list, after)
	}
}

func TestTapeForkInvalid(t *testing.T) {
	check := func(tape impl.Tape, n int) {
		if got := impl.TapeFork(tape, n); got != (impl.Tape{}) {
			t.Errorf("TapeFork(%v, %d) = %v", tape, n, got)
		}
	}
	for _, tape := range invalidTapes() {
		for _, n := range []int{0, 1, maxFork, maxFork + 1, -1} {
			check(tape, n)
		}
	}
	for _, tape := range validTapes() {
		for _, n := range notForks {
			check(tape, n)
		}
	}
}
