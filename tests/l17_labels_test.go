package tests

import (
	"math"
	"slices"
	"testing"

	"loop.example/g00979/impl"
)

const (
	labelMask    = 65535
	maxStartAt   = 900000
	maxHashIndex = 1000000
)

// edgeLabels lies around the ends of the range, and has even and odd labels.
var edgeLabels = []int{0, 1, 2, 3, 100, 255, 256, 21845, 32767, 32768, 32769, 43690, labelMask - 2, labelMask - 1, labelMask}

// notLabels are no labels, also some whose low 16 or 32 bits are one.
var notLabels = []int{
	-1, -2, -3, -32768, -labelMask, -labelMask - 1, -labelMask - 2, -maxWord, -maxWord - 1,
	labelMask + 1, labelMask + 2, labelMask + 3, 2*labelMask + 1, 2*labelMask + 2, 1 << 31, maxWord, maxWord + 1, 1<<32 + 5, 1<<32 + labelMask,
	math.MaxInt64, math.MaxInt64 - 1, math.MinInt64, math.MinInt64 + 1,
}

// notBits are neither 0 nor 1, also some whose low bits are.
var notBits = []int{
	-1, -2, -3, 2, 3, 4, 255, 256, 257, labelMask, labelMask + 1, labelMask + 2, 1 << 32, 1<<32 + 1,
	math.MaxInt64, math.MaxInt64 - 1, math.MinInt64, math.MinInt64 + 1,
}

// hashIndexes are numbers for which a label can be hashed, and notHashIndexes
// none, also some whose low 32 bits are one.
var (
	hashIndexes    = []int{0, 1, 2, 3, 77, 255, 256, 65534, 65535, 65536, 65537, 524288, maxHashIndex - 2, maxHashIndex - 1, maxHashIndex}
	notHashIndexes = []int{
		-1, -2, -77, -maxHashIndex, maxHashIndex + 1, maxHashIndex + 2, 2 * maxHashIndex, 1048576, maxWord, 1 << 32, 1<<32 + 1, -1 << 32, -1<<32 + 5,
		math.MaxInt64, math.MaxInt64 - 1, math.MinInt64, math.MinInt64 + 1,
	}
)

// startAts are positions of tapes around the last one that DeltaOf reads.
var startAts = []int{0, 1, 2, 65535, 65536, 450000, maxStartAt - 2, maxStartAt - 1, maxStartAt, maxStartAt + 1, maxStartAt + 2, 950000, maxTapeAt - 1, maxTapeAt}

// deltaOf is the definition of the difference of a tape, and the tape after it.
func deltaOf(tape impl.Tape) (int, impl.Tape) {
	if tape.At > maxStartAt {
		return 0, tape
	}
	number := tapeWord(tape.Seed, tape.At) / 256 % 65536
	if number%2 == 0 {
		number++
	}
	return number, impl.Tape{Seed: tape.Seed, At: tape.At + 1}
}

// hashLabel is the definition of the hash of a label.
func hashLabel(x int, n int) int {
	return int(mixWord(mixWord(mixWord(77)^uint32(n))^uint32(x)) % 65536)
}

// flipped is the definition of the exclusive or: where both labels have a bit,
// it is in the sum twice.
func flipped(label int, delta int) int { return label + delta - 2*(label&delta) }

// valueOf is the definition of the value of a number, of which any is allowed.
func valueOf(zero int, delta int, label int) int {
	switch label {
	case zero:
		return 0
	case flipped(zero, delta):
		return 1
	}
	return -1
}

func checkDelta(t *testing.T, tape impl.Tape) {
	want, wantAfter := deltaOf(tape)
	given := tape
	if delta, after := impl.DeltaOf(tape); delta != want || after != wantAfter || tape != given {
		t.Helper()
		t.Fatalf("DeltaOf(%v) = %d, %v; want %d, %v", given, delta, after, want, wantAfter)
	}
}

func checkValue(t *testing.T, zero int, delta int, label int, want int) {
	if got := impl.ValueOf(zero, delta, label); got != want {
		t.Helper()
		t.Fatalf("ValueOf(%d, %d, %d) = %d; want %d", zero, delta, label, got, want)
	}
}

func checkLabelFor(t *testing.T, zero int, delta int, v int, want int) {
	if got := impl.LabelFor(zero, delta, v); got != want {
		t.Helper()
		t.Fatalf("LabelFor(%d, %d, %d) = %d; want %d", zero, delta, v, got, want)
	}
}

func TestLabelMask(t *testing.T) {
	if impl.LabelMask != labelMask {
		t.Error("the limit differs from the document", impl.LabelMask)
	}
}

func TestIsLabel(t *testing.T) {
	cases := []struct {
		x    int
		want bool
	}{
		{-1, false}, {0, true}, {1, true},
		{65534, true}, {65535, true}, {65536, false}, {65537, false},
		{math.MaxInt64, false}, {math.MinInt64, false},
	}
	for _, c := range cases {
		if got := impl.IsLabel(c.x); got != c.want {
			t.Errorf("IsLabel(%d) = %v", c.x, got)
		}
	}
	for x := -3 * labelMask; x <= 5*labelMask; x++ {
		if got := impl.IsLabel(x); got != (x >= 0 && x < 65536) {
			t.Fatalf("IsLabel(%d) = %v", x, got)
		}
	}
	for _, x := range notLabels {
		if impl.IsLabel(x) {
			t.Errorf("IsLabel(%d) = true", x)
		}
	}
}

func TestDeltaOf(t *testing.T) {
	// Each case has the number of TapeBelow and the label that results from it.
	cases := []struct{ seed, at, number, want int }{
		{0, 0, 9416, 9417},
		{0, 1, 58603, 58603},
		{1, 0, 39889, 39889},
		{3, 0, 47162, 47163},
		{5, 0, 50373, 50373},
		{77, 12345, 1977, 1977},
		{65536, 65535, 46726, 46727},
		{2147483648, 500000, 20443, 20443},
		{maxWord, 0, 61448, 61449},
		{71937, 0, 0, 1},
		{120107, 0, 1, 1},
		{73919, 0, 65534, 65535},
		{89170, 0, 65535, 65535},
		{maxWord, 899999, 23681, 23681},
		{0, 899999, 17232, 17233},
		{0, 900000, 13436, 13437},
		{5, 900000, 6209, 6209},
		{maxWord, 900000, 20938, 20939},
	}
	for _, c := range cases {
		tape, wantAfter := impl.Tape{Seed: c.seed, At: c.at}, impl.Tape{Seed: c.seed, At: c.at + 1}
		number, _ := impl.TapeBelow(tape, 65536)
		delta, after := impl.DeltaOf(tape)
		if number != c.number || delta != c.want || after != wantAfter {
			t.Errorf("TapeBelow(%v, 65536) = %d; want %d; DeltaOf = %d, %v; want %d", tape, number, c.number, delta, after, c.want)
		}
	}
}

// A tape that is valid, but read too far, stays as it is.
func TestDeltaOfLateTapes(t *testing.T) {
	for _, at := range []int{900001, 900002, 950000, 999999, 1000000} {
		for _, seed := range edgeWords {
			tape := impl.Tape{Seed: seed, At: at}
			if delta, after := impl.DeltaOf(tape); delta != 0 || after != (impl.Tape{Seed: seed, At: at}) {
				t.Errorf("DeltaOf(%v) = %d, %v", tape, delta, after)
			}
		}
	}
}

func TestDeltaOfEdgeTapes(t *testing.T) {
	for _, tape := range validTapes() {
		checkDelta(t, tape)
	}
	for _, seed := range edgeWords {
		for _, at := range startAts {
			checkDelta(t, impl.Tape{Seed: seed, At: at})
		}
	}
}

func TestDeltaOfAllPositions(t *testing.T) {
	for at := range maxTapeAt + 1 {
		checkDelta(t, impl.Tape{Seed: 31, At: at})
	}
}

// Every odd label is the difference of a tape, and no other number is one.
func TestDeltaOfManySeeds(t *testing.T) {
	seen := map[int]bool{}
	for seed := range 500000 {
		delta, after := impl.DeltaOf(impl.Tape{Seed: seed, At: 3})
		if !impl.IsLabel(delta) || delta%2 != 1 || after != (impl.Tape{Seed: seed, At: 4}) {
			t.Fatalf("DeltaOf of %d at 3 = %d, %v", seed, delta, after)
		}
		seen[delta] = true
	}
	if len(seen) != 32768 {
		t.Error("there are only", len(seen), "differences")
	}
}

func TestDeltaOfInvalid(t *testing.T) {
	for _, tape := range invalidTapes() {
		given := tape
		if delta, after := impl.DeltaOf(tape); delta != 0 || after != given {
			t.Errorf("DeltaOf(%v) = %d, %v", given, delta, after)
		}
	}
}

func TestLabelFor(t *testing.T) {
	cases := []struct{ zero, delta, v, want int }{
		{0, 0, 0, 0},
		{0, 0, 1, 0},
		{0, 1, 0, 0},
		{0, 1, 1, 1},
		{1, 1, 0, 1},
		{1, 1, 1, 0},
		{0, 65535, 0, 0},
		{0, 65535, 1, 65535},
		{1, 65535, 1, 65534},
		{65535, 0, 0, 65535},
		{65535, 0, 1, 65535},
		{65535, 1, 0, 65535},
		{65535, 1, 1, 65534},
		{65535, 65535, 0, 65535},
		{65535, 65535, 1, 0},
		{1, 0, 1, 1},
		{12, 10, 0, 12},
		{12, 10, 1, 6},
		{10, 12, 0, 10},
		{10, 12, 1, 6},
		{100, 50373, 0, 100},
		{100, 50373, 1, 50337},
		{21845, 43690, 1, 65535},
		{43690, 65535, 1, 21845},
		{32768, 32769, 1, 1},
		{32768, 32768, 1, 0},
	}
	for _, c := range cases {
		checkLabelFor(t, c.zero, c.delta, c.v, c.want)
	}
}

func TestLabelForOfAllLabels(t *testing.T) {
	for _, edge := range edgeLabels {
		for label := range labelMask + 1 {
			checkLabelFor(t, label, edge, 0, label)
			checkLabelFor(t, edge, label, 0, edge)
			checkLabelFor(t, label, edge, 1, flipped(label, edge))
			checkLabelFor(t, edge, label, 1, flipped(edge, label))
		}
	}
}

func TestLabelForInvalid(t *testing.T) {
	for _, zero := range edgeLabels {
		for _, delta := range edgeLabels {
			for _, v := range notBits {
				checkLabelFor(t, zero, delta, v, -1)
			}
		}
	}
	for _, bad := range notLabels {
		for _, v := range append([]int{0, 1}, notBits...) {
			for _, label := range edgeLabels {
				checkLabelFor(t, bad, label, v, -1)
				checkLabelFor(t, label, bad, v, -1)
			}
			for _, other := range notLabels {
				checkLabelFor(t, bad, other, v, -1)
			}
		}
	}
}

// checkWire checks the labels of a wire against what the document promises.
func checkWire(t *testing.T, zero int, delta int) {
	t.Helper()
	first, second := impl.LabelFor(zero, delta, 0), impl.LabelFor(zero, delta, 1)
	if !impl.IsLabel(first) || !impl.IsLabel(second) {
		t.Fatalf("the labels of %d with %d are %d and %d", zero, delta, first, second)
	}
	if first == second || impl.LowBit(first) == impl.LowBit(second) {
		t.Fatalf("the labels %d and %d of %d with %d, or their permute bits, are the same", first, second, zero, delta)
	}
	checkValue(t, zero, delta, first, 0)
	checkValue(t, zero, delta, second, 1)
}

func TestLabelsOfWireDiffer(t *testing.T) {
	tapes := []impl.Tape{{}, {Seed: 5}, {Seed: 71937}, {Seed: 73919}, {Seed: 3, At: 17}, {Seed: 65536, At: 65535}, {Seed: maxWord, At: maxStartAt}}
	for _, tape := range tapes {
		delta, _ := impl.DeltaOf(tape)
		for zero := range labelMask + 1 {
			checkWire(t, zero, delta)
		}
	}
	for seed := range 20000 {
		delta, after := impl.DeltaOf(impl.Tape{Seed: seed * 214748, At: seed * 45})
		for _, zero := range edgeLabels {
			checkWire(t, zero, delta)
		}
		zero, _ := impl.TapeBelow(after, 65536)
		checkWire(t, zero, delta)
	}
}

func TestHashLabel(t *testing.T) {
	cases := []struct{ x, n, want int }{
		{0, 0, 7929},
		{1, 0, 32425},
		{0, 1, 25795},
		{3, 2, 58039},
		{2, 3, 44719},
		{255, 256, 14511},
		{256, 255, 57350},
		{12345, 54321, 44898},
		{54321, 12345, 60593},
		{32768, 77, 8431},
		{77, 77, 44771},
		{8431, 1, 0},
		{18095, 1000000, 0},
		{11185, 0, 65535},
		{64793, 1000000, 65535},
		{65534, 999999, 35912},
		{65535, 0, 50406},
		{65535, 1, 10577},
		{65535, 65535, 41712},
		{65535, 65536, 38719},
		{40000, 500000, 23479},
		{0, 999999, 57133},
		{1, 999999, 63174},
		{0, 1000000, 15205},
		{1, 1000000, 31115},
		{65535, 999999, 52854},
		{65535, 1000000, 18505},
	}
	for _, c := range cases {
		if got := impl.HashLabel(c.x, c.n); got != c.want || got != impl.Keyed(77, c.n, c.x)%65536 {
			t.Errorf("HashLabel(%d, %d) = %d; want %d", c.x, c.n, got, c.want)
		}
	}
}

func TestHashLabelOfAllLabels(t *testing.T) {
	for _, n := range hashIndexes {
		for x := range labelMask + 1 {
			if got := impl.HashLabel(x, n); got != hashLabel(x, n) || !impl.IsLabel(got) {
				t.Fatalf("HashLabel(%d, %d) = %d; want %d", x, n, got, hashLabel(x, n))
			}
		}
	}
}

func TestHashLabelOfAllNumbers(t *testing.T) {
	for _, x := range []int{0, 1, 40000, labelMask} {
		for n := range maxHashIndex + 1 {
			if got := impl.HashLabel(x, n); got != hashLabel(x, n) {
				t.Fatalf("HashLabel(%d, %d) = %d; want %d", x, n, got, hashLabel(x, n))
			}
		}
	}
}

func TestHashLabelInvalid(t *testing.T) {
	check := func(x int, n int) {
		if got := impl.HashLabel(x, n); got != -1 {
			t.Errorf("HashLabel(%d, %d) = %d", x, n, got)
		}
	}
	for _, x := range edgeLabels {
		for _, n := range notHashIndexes {
			check(x, n)
		}
	}
	for _, x := range notLabels {
		for _, n := range hashIndexes {
			check(x, n)
		}
		for _, n := range notHashIndexes {
			check(x, n)
		}
	}
}

func TestValueOf(t *testing.T) {
	cases := []struct{ zero, delta, label, want int }{
		{100, 50373, 100, 0},
		{100, 50373, 50337, 1},
		{100, 50373, 50373, -1},
		{100, 50373, 0, -1},
		{100, 50373, 101, -1},
		{100, 50373, 50336, -1},
		{100, 1, 100, 0},
		{100, 1, 101, 1},
		{100, 1, 7, -1},
		{100, 1, 102, -1},
		{101, 1, 101, 0},
		{101, 1, 100, 1},
		{101, 1, 102, -1},
		// Without a difference, the label is that of both values.
		{100, 0, 100, 0},
		{0, 0, 0, 0},
		{65535, 0, 65535, 0},
		{100, 0, 101, -1},
		{0, 0, 65536, -1},
		// The difference may be even.
		{12, 10, 12, 0},
		{12, 10, 6, 1},
		{12, 10, 10, -1},
		{12, 12, 0, 1},
		{0, 65535, 65535, 1},
		{65535, 65535, 0, 1},
		{65535, 65535, 65535, 0},
		{0, 65535, 0, 0},
		{0, 65535, 65534, -1},
		{0, 65535, -1, -1},
		{65535, 1, -1, -1},
		{0, 1, -1, -1},
		{0, 1, 65536, -1},
		{0, 1, 65537, -1},
	}
	for _, c := range cases {
		checkValue(t, c.zero, c.delta, c.label, c.want)
	}
}

// Of all labels, only those of the wire have a value.
func TestValueOfAllLabels(t *testing.T) {
	for _, zero := range edgeLabels {
		for _, delta := range edgeLabels {
			counts := map[int]int{}
			for label := range labelMask + 1 {
				checkValue(t, zero, delta, label, valueOf(zero, delta, label))
				counts[impl.ValueOf(zero, delta, label)]++
			}
			if counts[0] != 1 || counts[1] != min(delta, 1) {
				t.Errorf("the labels of %d with %d have the values %v", zero, delta, counts)
			}
		}
	}
}

// Each label in the place of zero and of delta, with the labels that belong to
// the wire and with others.
func TestValueOfAllWires(t *testing.T) {
	for _, edge := range edgeLabels {
		for label := range labelMask + 1 {
			checkValue(t, label, edge, label, 0)
			checkValue(t, edge, label, edge, 0)
			if edge != 0 {
				checkValue(t, label, edge, flipped(label, edge), 1)
			}
			if label != 0 {
				checkValue(t, edge, label, flipped(edge, label), 1)
			}
			for _, other := range edgeLabels {
				checkValue(t, label, edge, other, valueOf(label, edge, other))
				checkValue(t, edge, label, other, valueOf(edge, label, other))
			}
		}
	}
}

// A number that is no label has no value, also if its low bits are a label of
// the wire.
func TestValueOfOtherNumbers(t *testing.T) {
	for _, zero := range edgeLabels {
		for _, delta := range edgeLabels {
			for _, number := range notLabels {
				checkValue(t, zero, delta, number, -1)
			}
			for _, label := range []int{zero, flipped(zero, delta)} {
				for shift := 16; shift < 64; shift++ {
					checkValue(t, zero, delta, label+1<<shift, -1)
					checkValue(t, zero, delta, label-1<<shift, -1)
					checkValue(t, zero, delta, label|math.MinInt64, -1)
				}
				checkValue(t, zero, delta, -1-label, -1)
			}
		}
	}
}

func TestValueOfInvalid(t *testing.T) {
	labels := append([]int{-1}, edgeLabels...)
	for _, bad := range notLabels {
		for _, label := range edgeLabels {
			// The number given as a label is among others the one that the bad
			// wire would have for 0 or for 1.
			for _, given := range append([]int{bad, label, bad ^ label, label ^ labelMask}, labels...) {
				checkValue(t, bad, label, given, -1)
				checkValue(t, label, bad, given, -1)
			}
		}
		for _, other := range notLabels {
			for _, given := range append([]int{bad, other, bad ^ other}, labels...) {
				checkValue(t, bad, other, given, -1)
			}
		}
	}
}

// The results are the same again, whatever was called in between.
func TestLabelsAgain(t *testing.T) {
	type results struct {
		isLabel     bool
		delta       int
		after       impl.Tape
		first, last int
		hash        int
		value       int
	}
	all := func() []results {
		list := []results{}
		for i, zero := range slices.Concat(edgeLabels, notLabels) {
			for j, at := range slices.Concat(startAts, notAts) {
				tape := impl.Tape{Seed: i * 1000, At: at}
				given := tape
				delta, after := impl.DeltaOf(tape)
				list = append(list, results{
					isLabel: impl.IsLabel(zero),
					delta:   delta,
					after:   after,
					first:   impl.LabelFor(zero, delta, 0),
					last:    impl.LabelFor(zero, delta, 1),
					hash:    impl.HashLabel(zero, i*j),
					value:   impl.ValueOf(zero, delta, zero^delta),
				})
				if tape != given {
					t.Fatal("the tape was changed", tape, given)
				}
			}
		}
		return list
	}
	first, second := all(), all()
	for i := range first {
		if first[i] != second[i] {
			t.Fatalf("other results in the second round: %+v, %+v", first[i], second[i])
		}
	}
}
