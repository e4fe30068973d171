package tests

import (
	"fmt"
	"math"
	"slices"
	"testing"

	"loop.example/g00979/impl"
)

// The types have the fields of the document, in its order.
var (
	_ = impl.Garbled(struct {
		Delta         int
		Zeros, Tables []int
	}{})
	_ = impl.Public(struct{ Tables, Consts, Decode []int }{})
)

// maxInputNumber is the greatest number of an input bit for InputZero.
const maxInputNumber = 1000000

// inputNumbers are numbers of input bits, and notInputNumbers none, also some
// whose low bits are one.
var (
	inputNumbers    = []int{0, 1, 2, 40, 79, 80, 81, 255, 256, 999, 1000, 1001, 6999, 7000, 65535, 65536, 524288, 999998, 999999, maxInputNumber}
	notInputNumbers = append([]int{maxInputNumber + 3, 1 << 20, -1 << 20, 1<<32 + 79, -1 << 32, -1<<32 + 1, math.MinInt64 + 79}, notForks...)
)

// garblingTapes are tapes with which circuits are garbled. The labels for 0 of the
// first two input bits have all four combinations of permute bits.
var garblingTapes = []impl.Tape{{Seed: 7}, {Seed: 3}, {Seed: 0}, {Seed: 4}, {Seed: 5, At: 123456}, {Seed: maxWord, At: maxStartAt}}

// lateTapes are valid, but read too far.
var lateTapes = []impl.Tape{{At: maxStartAt + 1}, {Seed: 5, At: maxStartAt + 1}, {Seed: 7, At: maxStartAt + 2}, {Seed: maxWord, At: 950000}, {Seed: 3, At: maxTapeAt - 1}, {Seed: 5, At: maxTapeAt}}

// refusedTapes are those with which nothing is garbled.
func refusedTapes() []impl.Tape { return append(invalidTapes(), lateTapes...) }

// inputZero is the definition of the label for 0 of an input bit.
func inputZero(seed int, k int) int { return tapeWord(forkSeed(seed, k), 0) / 256 % 65536 }

// andOf is the definition of the table entries of the GtAnd gate n, and of its
// label for 0.
func andOf(a int, b int, delta int, n int) (entries []int, zero int) {
	first, second := hashLabel(a, 2*n), hashLabel(b, 2*n+1)
	left := flipped(first, hashLabel(flipped(a, delta), 2*n))
	right := flipped(flipped(second, hashLabel(flipped(b, delta), 2*n+1)), a)
	if b%2 == 1 {
		left = flipped(left, delta)
	}
	zero = flipped(first, second)
	if a%2 == 1 {
		zero = flipped(zero, left)
	}
	if b%2 == 1 {
		zero = flipped(zero, flipped(right, a))
	}
	return []int{left, right}, zero
}

// garbledOf is the definition of the garbling of a valid circuit.
func garbledOf(c impl.Circuit, tape impl.Tape) impl.Garbled {
	g := impl.Garbled{}
	g.Delta, _ = deltaOf(tape)
	for n, gate := range c.Gates {
		zero, entries := 0, []int{}
		switch gate.Kind {
		case impl.GtInput:
			zero = inputZero(tape.Seed, gate.A)
		case impl.GtConst:
			zero = inputZero(tape.Seed, 1000+n)
		case impl.GtXor:
			zero = flipped(g.Zeros[gate.A], g.Zeros[gate.B])
		case impl.GtNot:
			zero = flipped(g.Zeros[gate.A], g.Delta)
		case impl.GtAnd:
			entries, zero = andOf(g.Zeros[gate.A], g.Zeros[gate.B], g.Delta, n)
		}
		g.Zeros, g.Tables = append(g.Zeros, zero), append(g.Tables, entries...)
	}
	return g
}

// publicOf is the definition of the public part of a garbled circuit.
func publicOf(c impl.Circuit, g impl.Garbled) impl.Public {
	p := impl.Public{Tables: slices.Clone(g.Tables)}
	for n, gate := range c.Gates {
		switch gate {
		case constGate(0):
			p.Consts = append(p.Consts, g.Zeros[n])
		case constGate(1):
			p.Consts = append(p.Consts, flipped(g.Zeros[n], g.Delta))
		}
	}
	for _, wire := range c.Outs {
		p.Decode = append(p.Decode, g.Zeros[wire]%2)
	}
	return p
}

// inputLabels is the definition of the labels of the input bits.
func inputLabels(tape impl.Tape, bits []int) []int {
	delta, _ := deltaOf(tape)
	labels := []int{}
	for k, bit := range bits {
		labels = append(labels, flipped(inputZero(tape.Seed, k), bit*delta))
	}
	return labels
}

func andsOf(c impl.Circuit) int {
	ands := 0
	for _, g := range c.Gates {
		if g.Kind == impl.GtAnd {
			ands++
		}
	}
	return ands
}

func cloneGarbled(g impl.Garbled) impl.Garbled {
	return impl.Garbled{Delta: g.Delta, Zeros: slices.Clone(g.Zeros), Tables: slices.Clone(g.Tables)}
}

func sameGarbled(a impl.Garbled, b impl.Garbled) bool {
	return a.Delta == b.Delta && slices.Equal(a.Zeros, b.Zeros) && slices.Equal(a.Tables, b.Tables)
}

func clonePublic(p impl.Public) impl.Public {
	return impl.Public{Tables: slices.Clone(p.Tables), Consts: slices.Clone(p.Consts), Decode: slices.Clone(p.Decode)}
}

func samePublic(a impl.Public, b impl.Public) bool {
	return slices.Equal(a.Tables, b.Tables) && slices.Equal(a.Consts, b.Consts) && slices.Equal(a.Decode, b.Decode)
}

// briefResult describes a result, of a large one only the beginning.
func briefResult(result any) string { return fmt.Sprintf("%.400s", fmt.Sprintf("%+v", result)) }

func checkInputZero(t *testing.T, tape impl.Tape, k int, want int) {
	if got := impl.InputZero(tape, k); got != want {
		t.Helper()
		t.Fatalf("InputZero(%v, %d) = %d; want %d", tape, k, got, want)
	}
}

// checkGarble checks what Garble returns for a valid circuit, and that it leaves
// the circuit as it is.
func checkGarble(t *testing.T, c impl.Circuit, tape impl.Tape, want impl.Garbled) {
	before := cloneCircuit(c)
	if got, ok := impl.Garble(c, tape); !ok || !sameGarbled(got, want) {
		t.Helper()
		t.Fatalf("Garble of %s with %v = %s, %v; want %s", wholeCircuit(before), tape, briefResult(got), ok, briefResult(want))
	}
	if !sameCircuit(c, before) {
		t.Helper()
		t.Fatalf("Garble changed %s to %s", wholeCircuit(before), wholeCircuit(c))
	}
}

func checkNoGarble(t *testing.T, c impl.Circuit, tape impl.Tape) {
	before := cloneCircuit(c)
	if got, ok := impl.Garble(c, tape); ok || !sameGarbled(got, impl.Garbled{}) || !sameCircuit(c, before) {
		t.Helper()
		t.Fatalf("Garble of %s with %v = %s, %v", wholeCircuit(before), tape, briefResult(got), ok)
	}
}

func checkGarbledOk(t *testing.T, c impl.Circuit, g impl.Garbled, want bool) {
	before, given := cloneCircuit(c), cloneGarbled(g)
	if got := impl.GarbledOk(c, g); got != want {
		t.Helper()
		t.Fatalf("GarbledOk of %s and %s = %v", wholeCircuit(before), briefResult(given), got)
	}
	if !sameCircuit(c, before) || !sameGarbled(g, given) {
		t.Helper()
		t.Fatalf("GarbledOk changed %s and %s to %s and %s", wholeCircuit(before), briefResult(given), wholeCircuit(c), briefResult(g))
	}
}

// checkPublic checks the public part of a valid garbled circuit.
func checkPublic(t *testing.T, c impl.Circuit, g impl.Garbled, want impl.Public) {
	checkGarbledOk(t, c, g, true)
	before, given := cloneCircuit(c), cloneGarbled(g)
	if got, ok := impl.PublicOf(c, g); !ok || !samePublic(got, want) {
		t.Helper()
		t.Fatalf("PublicOf of %s and %s = %s, %v; want %s", wholeCircuit(before), briefResult(given), briefResult(got), ok, briefResult(want))
	}
	if !sameCircuit(c, before) || !sameGarbled(g, given) {
		t.Helper()
		t.Fatalf("PublicOf changed %s and %s to %s and %s", wholeCircuit(before), briefResult(given), wholeCircuit(c), briefResult(g))
	}
}

// checkNoPublic checks a circuit or a garbling that is not valid.
func checkNoPublic(t *testing.T, c impl.Circuit, g impl.Garbled) {
	checkGarbledOk(t, c, g, false)
	given := cloneGarbled(g)
	if got, ok := impl.PublicOf(c, g); ok || !samePublic(got, impl.Public{}) || !sameGarbled(g, given) {
		t.Helper()
		t.Fatalf("PublicOf of %s and %s = %s, %v", wholeCircuit(c), briefResult(given), briefResult(got), ok)
	}
}

// checkDefined checks the garbling of a circuit, and its public part, by their
// definitions.
func checkDefined(t *testing.T, c impl.Circuit, tape impl.Tape) {
	g := garbledOf(c, tape)
	checkGarble(t, c, tape, g)
	checkPublic(t, c, g, publicOf(c, g))
}

func checkInputLabels(t *testing.T, tape impl.Tape, bits []int, want []int) {
	given := slices.Clone(bits)
	if got := impl.InputLabels(tape, bits); !slices.Equal(got, want) || !slices.Equal(bits, given) {
		t.Helper()
		t.Fatalf("InputLabels(%v, %v) = %v; want %v", tape, given, got, want)
	}
}

func TestInputZero(t *testing.T) {
	cases := []struct{ seed, k, want int }{
		{0, 0, 27389},
		{0, 1, 42052},
		{0, 1000, 4438},
		{0, 65536, 35933},
		{0, 999999, 15349},
		{0, 1000000, 30251},
		{1, 0, 40445},
		{1, 2, 54350},
		{5, 0, 45281},
		{5, 1, 60974},
		{5, 79, 52934},
		{5, 80, 12918},
		{5, 1000, 50800},
		{5, 1001, 16158},
		{5, 6999, 44219},
		{5, 1000000, 58171},
		{77, 0, 6775},
		{65536, 65536, 1161},
		{2147483648, 79, 1626},
		{2147483648, 1000000, 5180},
		{maxWord, 0, 13216},
		{maxWord, 1, 44274},
		{maxWord, 1000000, 38989},
		// The least and the greatest label.
		{0, 287670, 0},
		{0, 127806, 65535},
		{1, 27848, 0},
		{1, 11868, 65535},
	}
	for _, c := range cases {
		// The position does not count, also where a protocol cannot start.
		for _, at := range slices.Concat(startAts, edgeAts) {
			tape := impl.Tape{Seed: c.seed, At: at}
			checkInputZero(t, tape, c.k, c.want)
			if number, _ := impl.TapeBelow(impl.TapeFork(tape, c.k), 65536); number != c.want {
				t.Errorf("TapeBelow of fork %d of %v is %d; want %d", c.k, tape, number, c.want)
			}
		}
	}
}

func TestInputZeroOfEdges(t *testing.T) {
	for _, tape := range append(validTapes(), lateTapes...) {
		for _, k := range inputNumbers {
			checkInputZero(t, tape, k, inputZero(tape.Seed, k))
		}
		for _, k := range notInputNumbers {
			checkInputZero(t, tape, k, -1)
		}
	}
}

func TestInputZeroOfAllNumbers(t *testing.T) {
	for k := range maxInputNumber + 1 {
		checkInputZero(t, impl.Tape{Seed: 31, At: k}, k, inputZero(31, k))
	}
	for k := maxInputNumber + 1; k <= 2*maxInputNumber; k++ {
		checkInputZero(t, impl.Tape{Seed: 31}, k, -1)
		checkInputZero(t, impl.Tape{Seed: 31}, -k, -1)
		checkInputZero(t, impl.Tape{Seed: 31}, maxInputNumber-k, -1)
	}
}

func TestInputZeroOfManySeeds(t *testing.T) {
	for seed := range 300000 {
		checkInputZero(t, impl.Tape{Seed: seed * 14316, At: seed}, seed%97, inputZero(seed*14316, seed%97))
	}
}

func TestInputZeroOfInvalidTapes(t *testing.T) {
	for _, tape := range invalidTapes() {
		for _, k := range slices.Concat(inputNumbers, notInputNumbers) {
			checkInputZero(t, tape, k, -1)
		}
	}
}

// tables is a circuit with gates of all kinds, each with operands of several.
const tables = "i0 1 0&1 2&1 0 2&3 4&5 2^1 !2 !1 0^5 8&9 7&10 !6 13&13"

// garblings are circuits with what Garble returns for them. The numbers are
// computed apart from the program.
var garblings = []struct {
	gates string
	tape  impl.Tape
	want  impl.Garbled
}{
	{"", impl.Tape{Seed: 0}, impl.Garbled{Delta: 9417}},
	{"", impl.Tape{Seed: 5, At: 900000}, impl.Garbled{Delta: 6209}},
	{"i0", impl.Tape{Seed: 5}, impl.Garbled{Delta: 50373, Zeros: []int{45281}}},
	{"i79", impl.Tape{Seed: 5}, impl.Garbled{Delta: 50373, Zeros: []int{52934}}},
	{"i1", impl.Tape{Seed: maxWord, At: 899999}, impl.Garbled{Delta: 23681, Zeros: []int{44274}}},
	// Constants: the index counts, and the value does not.
	{"0", impl.Tape{Seed: 5}, impl.Garbled{Delta: 50373, Zeros: []int{50800}}},
	{"1", impl.Tape{Seed: 5}, impl.Garbled{Delta: 50373, Zeros: []int{50800}}},
	{"1", impl.Tape{Seed: 2147483648, At: 77}, impl.Garbled{Delta: 50285, Zeros: []int{61151}}},
	{"1 0 1 i1 0", impl.Tape{Seed: 5}, impl.Garbled{Delta: 50373, Zeros: []int{50800, 16158, 14982, 60974, 26639}}},
	{"0 0", impl.Tape{Seed: 9}, impl.Garbled{Delta: 437, Zeros: []int{24152, 16506}}},
	// Gates without table entries.
	{"i0 !0", impl.Tape{Seed: 5}, impl.Garbled{Delta: 50373, Zeros: []int{45281, 29732}}},
	{"1 !0", impl.Tape{Seed: 5}, impl.Garbled{Delta: 50373, Zeros: []int{50800, 693}}},
	{"0 !0", impl.Tape{Seed: 5}, impl.Garbled{Delta: 50373, Zeros: []int{50800, 693}}},
	{"i0 i1 0^1", impl.Tape{Seed: 5}, impl.Garbled{Delta: 50373, Zeros: []int{45281, 60974, 24271}}},
	{"i1 i0 0^1", impl.Tape{Seed: 5}, impl.Garbled{Delta: 50373, Zeros: []int{60974, 45281, 24271}}},
	{"i0 0^0", impl.Tape{Seed: 5}, impl.Garbled{Delta: 50373, Zeros: []int{45281, 0}}},
	{"i5 i5 0^1", impl.Tape{Seed: 5}, impl.Garbled{Delta: 50373, Zeros: []int{47311, 47311, 0}}},
	{"1 i3 0^1", impl.Tape{Seed: 5}, impl.Garbled{Delta: 50373, Zeros: []int{50800, 18803, 36611}}},
	{"i3 !0 !1 0^1 0^2", impl.Tape{Seed: 5}, impl.Garbled{Delta: 50373, Zeros: []int{18803, 36278, 18803, 50373, 0}}},
	// A GtAnd gate, with the permute bits 0 and 0, 0 and 1, 1 and 0, 1 and 1.
	{"i0 i1 0&1", impl.Tape{Seed: 7}, impl.Garbled{Delta: 8333, Zeros: []int{36152, 4288, 58387}, Tables: []int{54206, 33283}}},
	{"i0 i1 0&1", impl.Tape{Seed: 3}, impl.Garbled{Delta: 47163, Zeros: []int{288, 17191, 15245}, Tables: []int{6484, 48691}}},
	{"i0 i1 0&1", impl.Tape{Seed: 0}, impl.Garbled{Delta: 9417, Zeros: []int{27389, 42052, 60610}, Tables: []int{40474, 21896}}},
	{"i0 i1 0&1", impl.Tape{Seed: 4}, impl.Garbled{Delta: 54963, Zeros: []int{57143, 47637, 48031}, Tables: []int{22332, 45171}}},
	// The operands the other way round.
	{"i0 i1 1&0", impl.Tape{Seed: 7}, impl.Garbled{Delta: 8333, Zeros: []int{36152, 4288, 9887}, Tables: []int{23550, 28764}}},
	{"i0 i1 1&0", impl.Tape{Seed: 3}, impl.Garbled{Delta: 47163, Zeros: []int{288, 17191, 13705}, Tables: []int{54154, 38945}}},
	{"i0 i1 1&0", impl.Tape{Seed: 0}, impl.Garbled{Delta: 9417, Zeros: []int{27389, 42052, 4073}, Tables: []int{9637, 35027}}},
	{"i0 i1 1&0", impl.Tape{Seed: 4}, impl.Garbled{Delta: 54963, Zeros: []int{57143, 47637, 5900}, Tables: []int{38884, 19476}}},
	// The same wire as both operands, and the same input in two gates.
	{"i0 0&0", impl.Tape{Seed: 7}, impl.Garbled{Delta: 8333, Zeros: []int{36152, 43263}, Tables: []int{63723, 8765}}},
	{"i0 0&0", impl.Tape{Seed: 4}, impl.Garbled{Delta: 54963, Zeros: []int{57143, 56122}, Tables: []int{38583, 1315}}},
	{"i6 i6 0&1", impl.Tape{Seed: 7}, impl.Garbled{Delta: 8333, Zeros: []int{37860, 37860, 31538}, Tables: []int{26420, 27909}}},
	{"i6 i6 0&1", impl.Tape{Seed: 0}, impl.Garbled{Delta: 9417, Zeros: []int{29026, 29026, 63952}, Tables: []int{60379, 25571}}},
	// Operands of all kinds.
	{tables, impl.Tape{Seed: 5}, impl.Garbled{
		Delta:  50373,
		Zeros:  []int{45281, 16158, 33097, 12807, 26639, 54386, 48967, 48727, 17804, 64475, 25747, 5551, 56030, 31618, 42061},
		Tables: []int{1594, 22949, 5229, 54902, 48508, 38452, 39551, 59648, 27776, 45980, 37513, 24406, 16811, 2253},
	}},
	{tables, impl.Tape{Seed: maxWord}, impl.Garbled{
		Delta:  61449,
		Zeros:  []int{13216, 5632, 35974, 39594, 2390, 45432, 57185, 39558, 31887, 58889, 33496, 4654, 5914, 12136, 14182},
		Tables: []int{7817, 51466, 17789, 54961, 49112, 15854, 38676, 55031, 27516, 2111, 50858, 43431, 13504, 5598},
	}},
	{"i0 i79 1 0^1 3&2 !4 0 5&0 7^6 !8 i41", impl.Tape{Seed: 5, At: 900000}, impl.Garbled{
		Delta:  6209,
		Zeros:  []int{45281, 52934, 14982, 32295, 55038, 52927, 31214, 5677, 28611, 30594, 16205},
		Tables: []int{37026, 44293, 60636, 26165},
	}},
}

// The outputs do not count for Garble.
func TestGarble(t *testing.T) {
	for _, k := range garblings {
		c := circuitOf(gatesOf(k.gates)...)
		checkGarble(t, c, k.tape, k.want)
		checkGarbledOk(t, c, k.want, true)
		c.Outs = countsFrom(0, len(c.Gates)-1)
		checkGarble(t, c, k.tape, k.want)
		checkGarbledOk(t, c, k.want, true)
		if defined := garbledOf(c, k.tape); !sameGarbled(defined, k.want) {
			t.Errorf("the definition has %v for %s with %v", defined, k.gates, k.tape)
		}
	}
}

// totalOf returns the sum of a list.
func totalOf(list []int) int {
	sum := 0
	for _, n := range list {
		sum += n
	}
	return sum
}

// squaresCircuit is a chain of GtAnd gates with the same wire as both operands.
func squaresCircuit(count int) impl.Circuit {
	c := inputsOf(9)
	for at := 1; at < count; at++ {
		c.Gates = append(c.Gates, andGate(at-1, at-1))
	}
	return c
}

// constsCircuit has the constants 0 and 1 in turn.
func constsCircuit(count int) impl.Circuit {
	c := impl.Circuit{}
	for at := range count {
		c.Gates = append(c.Gates, constGate(at%2))
	}
	return c
}

// crossedCircuit has GtAnd gates of the wire before and of one half as far.
func crossedCircuit(count int) impl.Circuit {
	c := inputsOf(9, 3)
	for at := 2; at < count; at++ {
		g := andGate(at/2, at-1)
		if at%2 == 1 {
			g = andGate(at-1, at/2)
		}
		c.Gates = append(c.Gates, g)
	}
	return c
}

// Circuits with as many gates as there may be. The sums are computed apart from
// the program.
func TestGarbleOfMaxGates(t *testing.T) {
	cases := []struct {
		c                   impl.Circuit
		seed, delta         int
		lastZeros           []int
		lastTables          []int
		zeroSum, tableSum   int
		zeroCount, tableLen int
	}{
		{squaresCircuit(maxGates), 5, 50373, []int{50131, 28415}, []int{57985, 15970}, 197180115, 392424247, 6000, 11998},
		{squaresCircuit(maxGates), 12, 29763, []int{53327, 30363}, []int{38859, 61505}, 196938050, 392193648, 6000, 11998},
		{constsCircuit(maxGates), 5, 50373, []int{37392, 44219}, nil, 198692423, 0, 6000, 0},
		{constsCircuit(maxGates), 12, 29763, []int{48137, 27924}, nil, 196771682, 0, 6000, 0},
		{crossedCircuit(maxGates), 5, 50373, []int{42486, 363}, []int{38996, 10537}, 198022287, 392500913, 6000, 11996},
	}
	for _, k := range cases {
		g, ok := impl.Garble(k.c, impl.Tape{Seed: k.seed})
		if !ok || g.Delta != k.delta || len(g.Zeros) != k.zeroCount || len(g.Tables) != k.tableLen {
			t.Fatalf("%v, %d, %d labels and %d table entries of %s", ok, g.Delta, len(g.Zeros), len(g.Tables), briefCircuit(k.c))
		}
		if totalOf(g.Zeros) != k.zeroSum || totalOf(g.Tables) != k.tableSum {
			t.Errorf("the sums are %d and %d for %s", totalOf(g.Zeros), totalOf(g.Tables), briefCircuit(k.c))
		}
		if !slices.Equal(g.Zeros[maxGates-2:], k.lastZeros) || !slices.Equal(g.Tables[max(k.tableLen-2, 0):], k.lastTables) {
			t.Errorf("the ends are %v and %v for %s", g.Zeros[maxGates-2:], g.Tables[max(k.tableLen-2, 0):], briefCircuit(k.c))
		}
	}
	for _, tape := range garblingTapes {
		for _, c := range []impl.Circuit{largeCircuit(maxGates), largeCircuit(maxGates - 1), distinctCircuit(maxGates), squaresCircuit(maxGates), constsCircuit(maxGates), crossedCircuit(maxGates)} {
			c.Outs = countsFrom(0, len(c.Gates)-1)
			checkDefined(t, c, tape)
			checkNoGarble(t, impl.Circuit{Gates: append(slices.Clone(c.Gates), constGate(0), constGate(0))}, tape)
		}
	}
}

// All circuits of up to four gates with two input bits.
func TestGarbleOfAllSmallCircuits(t *testing.T) {
	for count := range 5 {
		smallCircuits(count, func(c impl.Circuit) {
			for _, tape := range garblingTapes {
				checkDefined(t, c, tape)
			}
		})
	}
}

func TestGarbleOfMadeCircuits(t *testing.T) {
	combinations := map[[2]int]int{}
	for seed := range 1500 {
		c := madeCircuit(seed, 10+seed/5)
		tape := impl.Tape{Seed: seed * 2863311, At: seed * 600}
		checkDefined(t, c, tape)
		g, _ := impl.Garble(c, tape)
		for _, gate := range c.Gates {
			if gate.Kind == impl.GtAnd {
				combinations[[2]int{g.Zeros[gate.A] % 2, g.Zeros[gate.B] % 2}]++
			}
		}
	}
	if len(combinations) != 4 {
		t.Error("not all permute bits were tried:", combinations)
	}
}

// Each valid tape, at every edge position.
func TestGarbleOfEdgeTapes(t *testing.T) {
	circuits := append(evalCircuits(), circuitOf(gatesOf(tables)...))
	for _, seed := range edgeWords {
		for _, at := range startAts {
			tape := impl.Tape{Seed: seed, At: at}
			for _, c := range circuits {
				if at > maxStartAt {
					checkNoGarble(t, c, tape)
				} else {
					checkDefined(t, c, tape)
				}
			}
		}
	}
}

func TestGarbleInvalid(t *testing.T) {
	for _, c := range wrongCircuits() {
		for _, tape := range []impl.Tape{{Seed: 5}, {Seed: 7, At: maxStartAt}, {Seed: 5, At: maxStartAt + 1}, {Seed: -1}} {
			checkNoGarble(t, c, tape)
		}
	}
	for _, c := range append(evalCircuits(), circuitOf(gatesOf(tables)...)) {
		for _, tape := range refusedTapes() {
			checkNoGarble(t, c, tape)
		}
	}
}

// evaluated returns the labels of all wires for these input bits. It evaluates the
// garbled circuit as the next chapter describes it, without the values of the
// wires.
func evaluated(c impl.Circuit, p impl.Public, labels []int) []int {
	wires, tables, consts := []int{}, p.Tables, p.Consts
	for n, gate := range c.Gates {
		label := 0
		switch gate.Kind {
		case impl.GtInput:
			label = labels[gate.A]
		case impl.GtConst:
			label, consts = consts[0], consts[1:]
		case impl.GtXor:
			label = flipped(wires[gate.A], wires[gate.B])
		case impl.GtNot:
			label = wires[gate.A]
		case impl.GtAnd:
			a, b := wires[gate.A], wires[gate.B]
			label = flipped(hashLabel(a, 2*n), hashLabel(b, 2*n+1))
			label = flipped(label, a%2*tables[0])
			label = flipped(label, b%2*flipped(tables[1], a))
			tables = tables[2:]
		}
		wires = append(wires, label)
	}
	return wires
}

// checkEvaluated checks that the labels that follow from those of the input bits
// stand for the values of the wires.
func checkEvaluated(t *testing.T, c impl.Circuit, tape impl.Tape, bits []int) {
	g, _ := impl.Garble(c, tape)
	p, _ := impl.PublicOf(c, g)
	labels, values := evaluated(c, p, impl.InputLabels(tape, bits)), impl.EvalWires(c, bits)
	for wire, label := range labels {
		if got := impl.ValueOf(g.Zeros[wire], g.Delta, label); got != values[wire] {
			t.Helper()
			t.Fatalf("wire %d of %s with %v and %v has the value %d; want %d", wire, wholeCircuit(c), tape, bits, got, values[wire])
		}
	}
	for i, wire := range c.Outs {
		if got := labels[wire] % 2; got != (values[wire]+p.Decode[i])%2 {
			t.Helper()
			t.Fatalf("output %d of %s with %v and %v has the permute bit %d; want %d", i, wholeCircuit(c), tape, bits, got, (values[wire]+p.Decode[i])%2)
		}
	}
}

// A garbled circuit can be evaluated without knowing the values of its wires.
func TestGarbledCircuitsCanBeEvaluated(t *testing.T) {
	for count := range 5 {
		smallCircuits(count, func(c impl.Circuit) {
			for i, bits := range allValuesOf(0, 1) {
				checkEvaluated(t, c, garblingTapes[i], bits)
				checkEvaluated(t, c, garblingTapes[4+i%2], bits)
			}
		})
	}
	for seed := range 300 {
		c := madeCircuit(seed, 200)
		for _, bits := range bitSets() {
			checkEvaluated(t, c, impl.Tape{Seed: seed * 14316557, At: seed * 3000}, bits)
		}
	}
	for _, tape := range garblingTapes {
		for _, bits := range bitSets() {
			c := largeCircuit(maxGates)
			c.Outs = countsFrom(0, maxGates-1)
			checkEvaluated(t, c, tape, bits)
			checkEvaluated(t, compiledOf(madeProgram(tape.Seed%100)), tape, bits)
		}
	}
}

// checkEntries checks that there are two table entries for each GtAnd gate, in the
// order of the gates, and one label for each gate.
func checkEntries(t *testing.T, c impl.Circuit, tape impl.Tape) {
	t.Helper()
	g, ok := impl.Garble(c, tape)
	p, public := impl.PublicOf(c, g)
	if !ok || !public {
		t.Fatalf("%s with %v is not garbled: %v, %v", wholeCircuit(c), tape, ok, public)
	}
	ands := andsOf(c)
	if len(g.Tables) != 2*ands || len(p.Tables) != 2*ands || len(g.Zeros) != len(c.Gates) {
		t.Fatalf("%s has %d GtAnd gates, %d and %d table entries, and %d labels", wholeCircuit(c), ands, len(g.Tables), len(p.Tables), len(g.Zeros))
	}
	if 2*impl.CountGates(c, impl.GtAnd) != len(g.Tables) {
		t.Fatalf("CountGates has %d GtAnd gates", impl.CountGates(c, impl.GtAnd))
	}
	next := 0
	for n, gate := range c.Gates {
		if gate.Kind != impl.GtAnd {
			continue
		}
		entries, zero := andOf(g.Zeros[gate.A], g.Zeros[gate.B], g.Delta, n)
		if !slices.Equal(g.Tables[next:next+2], entries) || !slices.Equal(p.Tables[next:next+2], entries) || g.Zeros[n] != zero {
			t.Fatalf("gate %d of %s with %v has the entries %v and %v; want %v", n, wholeCircuit(c), tape, g.Tables[next:next+2], p.Tables[next:next+2], entries)
		}
		next += 2
	}
}

// A garbled circuit has two table entries for each GtAnd gate.
func TestTwoEntriesForEachAnd(t *testing.T) {
	cases := []struct {
		gates string
		ands  int
	}{
		{"", 0},
		{"i0", 0},
		{"0 1", 0},
		{"i0 i1 0^1 !2 1 3^4", 0},
		{"i0 0&0", 1},
		{"1 0&0", 1},
		{"i0 i1 0&1", 1},
		{"i0 1 0^1 !2 2&3 !4 4^5", 1},
		{"i0 i1 0&1 1&0 0&1", 3},
		{"i0 i1 0&1 !2 0 3&4 5^1 6&6 1", 3},
		{tables, 7},
	}
	for _, k := range cases {
		c := circuitOf(gatesOf(k.gates)...)
		if andsOf(c) != k.ands {
			t.Errorf("%s has %d GtAnd gates", k.gates, andsOf(c))
		}
		c.Outs = countsFrom(0, len(c.Gates)-1)
		for _, tape := range garblingTapes {
			checkEntries(t, c, tape)
		}
	}
	for seed := range 400 {
		c := madeCircuit(seed, 150)
		for _, tape := range garblingTapes {
			checkEntries(t, c, tape)
		}
	}
	for seed := range 40 {
		checkEntries(t, compiledOf(madeProgram(seed)), impl.Tape{Seed: seed * 107374182})
	}
	for _, c := range []impl.Circuit{largeCircuit(maxGates), distinctCircuit(maxGates), squaresCircuit(maxGates), constsCircuit(maxGates), crossedCircuit(maxGates)} {
		checkEntries(t, c, impl.Tape{Seed: 5})
	}
}

// wrongGarblings returns garblings that are not valid: each condition is broken
// alone, and both lengths also together. The given garbling is valid.
func wrongGarblings(g impl.Garbled) []impl.Garbled {
	wrong := []impl.Garbled{}
	for _, delta := range append([]int{0, 2, 100, 32768, labelMask - 1, g.Delta - 1, g.Delta ^ 1, -g.Delta, g.Delta + labelMask + 1}, notLabels...) {
		wrong = append(wrong, impl.Garbled{Delta: delta, Zeros: g.Zeros, Tables: g.Tables})
	}
	for _, number := range notLabels {
		for place := range g.Zeros {
			wrong = append(wrong, impl.Garbled{Delta: g.Delta, Zeros: withNumber(g.Zeros, place, number), Tables: g.Tables})
		}
		for place := range g.Tables {
			wrong = append(wrong, impl.Garbled{Delta: g.Delta, Zeros: g.Zeros, Tables: withNumber(g.Tables, place, number)})
		}
	}
	for _, zeros := range otherLengths(g.Zeros) {
		wrong = append(wrong, impl.Garbled{Delta: g.Delta, Zeros: zeros, Tables: g.Tables})
		// Also if there are as many labels in all.
		for _, tables := range otherLengths(g.Tables) {
			wrong = append(wrong, impl.Garbled{Delta: g.Delta, Zeros: zeros, Tables: tables})
		}
	}
	for _, tables := range otherLengths(g.Tables) {
		wrong = append(wrong, impl.Garbled{Delta: g.Delta, Zeros: g.Zeros, Tables: tables})
	}
	return wrong
}

// otherLengths returns lists of labels that are a little longer or shorter than
// the given one.
func otherLengths(list []int) [][]int {
	lists := [][]int{append(slices.Clone(list), 0), append(slices.Clone(list), labelMask, 1), slices.Concat(list, list, []int{7})}
	for _, count := range []int{1, 2, len(list)} {
		if count > 0 && count <= len(list) {
			// The memory behind a shorter list still has its labels.
			lists = append(lists, list[:len(list)-count], list[count:])
		}
	}
	return lists
}

// okCircuits are circuits for GarbledOk, without gates of each kind too.
func okCircuits() []impl.Circuit {
	circuits := evalCircuits()[:6]
	for _, text := range []string{"i0 i1 0&1", "i0 i1 0^1", "1 0&0 1&0 i3", tables} {
		c := circuitOf(gatesOf(text)...)
		circuits = append(circuits, c, impl.Circuit{Gates: c.Gates, Outs: countsFrom(0, len(c.Gates)-1)})
	}
	return circuits
}

func TestGarbledOk(t *testing.T) {
	for _, c := range okCircuits() {
		for _, tape := range garblingTapes {
			g, ok := impl.Garble(c, tape)
			if !ok {
				t.Fatalf("%s is not garbled", wholeCircuit(c))
			}
			checkGarbledOk(t, c, g, true)
			for _, wrong := range wrongGarblings(g) {
				checkNoPublic(t, c, wrong)
			}
		}
	}
	for _, c := range []impl.Circuit{largeCircuit(maxGates), crossedCircuit(maxGates)} {
		g, _ := impl.Garble(c, impl.Tape{Seed: 5})
		checkGarbledOk(t, c, g, true)
		for _, place := range []int{0, 1, maxGates / 2, maxGates - 2, maxGates - 1} {
			for _, number := range []int{-1, labelMask + 1} {
				checkNoPublic(t, c, impl.Garbled{Delta: g.Delta, Zeros: withNumber(g.Zeros, place, number), Tables: g.Tables})
				checkNoPublic(t, c, impl.Garbled{Delta: g.Delta, Zeros: g.Zeros, Tables: withNumber(g.Tables, place*len(g.Tables)/maxGates, number)})
			}
		}
	}
}

func TestGarbledOkOfZero(t *testing.T) {
	checkNoPublic(t, impl.Circuit{}, impl.Garbled{})
	checkNoPublic(t, circuitOf(inputGate(0)), impl.Garbled{})
	checkPublic(t, impl.Circuit{}, impl.Garbled{Delta: 1}, impl.Public{})
	checkNoPublic(t, impl.Circuit{}, impl.Garbled{Delta: 1, Zeros: []int{0}})
	checkNoPublic(t, impl.Circuit{}, impl.Garbled{Delta: 1, Tables: []int{0}})
	checkNoPublic(t, impl.Circuit{}, impl.Garbled{Delta: 1, Tables: []int{0, 0}})
	checkNoPublic(t, circuitOf(inputGate(0)), impl.Garbled{Delta: 1, Tables: []int{0, 0}})
	checkPublic(t, circuitOf(inputGate(0)), impl.Garbled{Delta: 1, Zeros: []int{0}}, impl.Public{})
	checkPublic(t, circuitOf(constGate(1)), impl.Garbled{Delta: labelMask, Zeros: []int{labelMask}}, impl.Public{Consts: []int{0}})
	// The labels that belong to one gate more or less.
	checkNoPublic(t, circuitOf(inputGate(0), andGate(0, 0)), impl.Garbled{Delta: 1, Zeros: []int{4}, Tables: []int{5, 6}})
	checkNoPublic(t, circuitOf(inputGate(0), andGate(0, 0)), impl.Garbled{Delta: 1, Zeros: []int{4, 5}})
	checkNoPublic(t, circuitOf(inputGate(0), xorGate(0, 0)), impl.Garbled{Delta: 1, Zeros: []int{4, 5}, Tables: []int{6, 7}})
	checkNoPublic(t, circuitOf(inputGate(0), notGate(0)), impl.Garbled{Delta: 1, Zeros: []int{4, 5}, Tables: []int{6, 7}})
	checkPublic(t, circuitOf(inputGate(0), andGate(0, 0)), impl.Garbled{Delta: 1, Zeros: []int{4, 5}, Tables: []int{6, 7}}, impl.Public{Tables: []int{6, 7}})
}

// Every label in each place, and every difference.
func TestGarbledOkOfAllLabels(t *testing.T) {
	c := impl.Circuit{Gates: gatesOf("i0 1 0&1"), Outs: []int{2, 1}}
	g, _ := impl.Garble(c, impl.Tape{Seed: 5})
	for label := -labelMask - 3; label <= 2*labelMask+3; label++ {
		isLabel := label >= 0 && label <= 65535
		for place := range g.Zeros {
			checkGarbledOk(t, c, impl.Garbled{Delta: g.Delta, Zeros: withNumber(g.Zeros, place, label), Tables: g.Tables}, isLabel)
		}
		for place := range g.Tables {
			checkGarbledOk(t, c, impl.Garbled{Delta: g.Delta, Zeros: g.Zeros, Tables: withNumber(g.Tables, place, label)}, isLabel)
		}
		checkGarbledOk(t, c, impl.Garbled{Delta: label, Zeros: g.Zeros, Tables: g.Tables}, isLabel && label%2 == 1)
	}
}

// fittingGarbling returns a garbling of made labels with the right lengths for a
// circuit, which need not be valid.
func fittingGarbling(c impl.Circuit, seed int) impl.Garbled {
	tape := impl.Tape{Seed: seed}
	g := impl.Garbled{}
	g.Delta, _ = deltaOf(tape)
	for n := range c.Gates {
		g.Zeros = append(g.Zeros, tapeWord(seed, n+1)%65536)
	}
	for n := range 2 * andsOf(c) {
		g.Tables = append(g.Tables, tapeWord(seed, n+10000)%65536)
	}
	return g
}

// Labels other than those of Garble are accepted.
func TestGarbledOkOfOtherLabels(t *testing.T) {
	for seed := range 1000 {
		c := madeCircuit(seed, 80)
		g := fittingGarbling(c, seed)
		checkPublic(t, c, g, publicOf(c, g))
	}
	for _, c := range okCircuits() {
		for seed := range 20 {
			g := fittingGarbling(c, seed)
			checkPublic(t, c, g, publicOf(c, g))
			for _, label := range edgeLabels {
				// All labels are the same: that of GtConst gates still changes with
				// their value.
				g := impl.Garbled{Delta: label | 1, Zeros: slices.Repeat([]int{label}, len(g.Zeros)), Tables: slices.Repeat([]int{label}, len(g.Tables))}
				checkPublic(t, c, g, publicOf(c, g))
			}
		}
	}
}

func TestGarbledOkOfInvalidCircuits(t *testing.T) {
	for seed, c := range wrongCircuits() {
		checkNoPublic(t, c, fittingGarbling(c, seed))
		checkNoPublic(t, c, impl.Garbled{})
	}
	// A garbling of another circuit, which has another number of gates.
	for _, c := range okCircuits() {
		g := garbledOf(c, impl.Tape{Seed: 5})
		for _, gate := range []impl.Gate{inputGate(0), constGate(0)} {
			longer := impl.Circuit{Gates: append(slices.Clone(c.Gates), gate)}
			checkNoPublic(t, longer, g)
			checkNoPublic(t, c, garbledOf(longer, impl.Tape{Seed: 5}))
		}
	}
}

// publics are circuits with what PublicOf returns for their garbling. The numbers
// are computed apart from the program.
var publics = []struct {
	gates string
	tape  impl.Tape
	outs  []int
	want  impl.Public
}{
	{"", impl.Tape{Seed: 5}, nil, impl.Public{}},
	{"i0", impl.Tape{Seed: 5}, nil, impl.Public{}},
	// The label for 0 has the permute bit 1, or 0.
	{"i0", impl.Tape{Seed: 5}, []int{0}, impl.Public{Decode: []int{1}}},
	{"i0", impl.Tape{Seed: 7}, []int{0}, impl.Public{Decode: []int{0}}},
	{"i0", impl.Tape{Seed: 5}, []int{0, 0, 0}, impl.Public{Decode: []int{1, 1, 1}}},
	{"0", impl.Tape{Seed: 5}, nil, impl.Public{Consts: []int{50800}}},
	{"1", impl.Tape{Seed: 5}, nil, impl.Public{Consts: []int{693}}},
	// Decode has the permute bit for 0, whatever the value of the constant.
	{"0", impl.Tape{Seed: 5}, []int{0}, impl.Public{Consts: []int{50800}, Decode: []int{0}}},
	{"1", impl.Tape{Seed: 5}, []int{0}, impl.Public{Consts: []int{693}, Decode: []int{0}}},
	{"1 0 i2 1 0 1", impl.Tape{Seed: 5}, []int{1, 5, 0}, impl.Public{Consts: []int{693, 16158, 8678, 26639, 42161}, Decode: []int{0, 0, 0}}},
	{"0 1 i2 0 1 0", impl.Tape{Seed: 5}, []int{0, 1, 2, 3, 4, 5}, impl.Public{Consts: []int{50800, 64475, 58659, 44234, 24692}, Decode: []int{0, 0, 1, 1, 1, 0}}},
	{"i0 i1 0&1 2&0", impl.Tape{Seed: 7}, []int{2, 3, 2, 0, 1, 1}, impl.Public{Tables: []int{54206, 33283, 33443, 31704}, Decode: []int{1, 1, 1, 0, 0, 0}}},
	{"i0 i1 0&1 2&0", impl.Tape{Seed: 4}, []int{3, 2, 1, 0}, impl.Public{Tables: []int{22332, 45171, 38942, 22635}, Decode: []int{1, 1, 1, 1}}},
	{tables, impl.Tape{Seed: 5}, []int{14, 1, 4, 4, 12, 0, 6}, impl.Public{
		Tables: []int{1594, 22949, 5229, 54902, 48508, 38452, 39551, 59648, 27776, 45980, 37513, 24406, 16811, 2253},
		Consts: []int{64475, 26639},
		Decode: []int{1, 0, 1, 1, 0, 1, 1},
	}},
	{"i0 i79 1 0^1 3&2 !4 0 5&0 7^6 !8 i41", impl.Tape{Seed: 5, At: 900000}, []int{9, 0, 4, 9, 10}, impl.Public{
		Tables: []int{37026, 44293, 60636, 26165},
		Consts: []int{8903, 31214},
		Decode: []int{0, 1, 0, 0, 1},
	}},
}

func TestPublicOf(t *testing.T) {
	for _, k := range publics {
		c := impl.Circuit{Gates: gatesOf(k.gates), Outs: k.outs}
		g, ok := impl.Garble(c, k.tape)
		if !ok {
			t.Fatalf("%s is not garbled", k.gates)
		}
		checkPublic(t, c, g, k.want)
		if defined := publicOf(c, g); !samePublic(defined, k.want) {
			t.Errorf("the definition has %v for %s with %v", defined, k.gates, k.tape)
		}
	}
}

// A circuit may have more outputs than gates.
func TestPublicOfManyOutputs(t *testing.T) {
	c := impl.Circuit{Gates: gatesOf(tables)}
	for range 1000 {
		c.Outs = append(c.Outs, countsFrom(0, len(c.Gates)-1)...)
	}
	for _, tape := range garblingTapes {
		checkDefined(t, c, tape)
	}
}

func TestInputLabels(t *testing.T) {
	cases := []struct {
		tape impl.Tape
		bits []int
		want []int
	}{
		{impl.Tape{Seed: 5}, nil, nil},
		{impl.Tape{Seed: 5}, []int{}, nil},
		{impl.Tape{Seed: 5}, []int{0}, []int{45281}},
		{impl.Tape{Seed: 5}, []int{1}, []int{29732}},
		{impl.Tape{Seed: 5}, []int{0, 1}, []int{45281, 10987}},
		{impl.Tape{Seed: 5}, []int{1, 0}, []int{29732, 60974}},
		// The difference depends on the position, and the label for 0 does not.
		{impl.Tape{Seed: 5, At: 1}, []int{1, 1}, []int{8648, 32519}},
		{impl.Tape{Seed: 0}, []int{1, 1, 0, 1, 0, 0, 1}, []int{20020, 32909, 62179, 17162, 32980, 40031, 21931}},
		{impl.Tape{Seed: 2147483648, At: 899999}, []int{1, 0}, []int{32265, 42231}},
		{impl.Tape{Seed: maxWord, At: 900000}, []int{0, 0, 1}, []int{13216, 44274, 55400}},
		{impl.Tape{Seed: maxWord, At: 900001}, []int{0, 0, 1}, nil},
	}
	for _, c := range cases {
		checkInputLabels(t, c.tape, c.bits, c.want)
	}
	for last, want := range []int{52934, 2563} {
		labels := impl.InputLabels(impl.Tape{Seed: 5}, append(make([]int, maxBits-1), last))
		if len(labels) != maxBits || labels[0] != 45281 || labels[maxBits-1] != want {
			t.Errorf("the labels of 80 bits with %d at the end are %v", last, labels)
		}
	}
}

// All lists of up to ten bits, and lists of all lengths.
func TestInputLabelsOfManyBits(t *testing.T) {
	for count := range 11 {
		for number := range power(2, count) {
			tape := garblingTapes[number%len(garblingTapes)]
			checkInputLabels(t, tape, bitsOf(number, count), inputLabels(tape, bitsOf(number, count)))
		}
	}
	for seed := range 200 {
		bits := append(madeBits(seed), madeBits(seed+1)...)
		for count := range bits {
			tape := impl.Tape{Seed: seed * 21474836, At: seed * 4500}
			want := inputLabels(tape, bits[:count])
			if count > maxBits {
				want = nil
			}
			checkInputLabels(t, tape, bits[:count], want)
		}
	}
}

func TestInputLabelsOfEdgeTapes(t *testing.T) {
	for _, seed := range edgeWords {
		for _, at := range startAts {
			tape := impl.Tape{Seed: seed, At: at}
			for _, bits := range append(bitSets(), nil, []int{0}, []int{1}) {
				want := inputLabels(tape, bits)
				if at > maxStartAt {
					want = nil
				}
				checkInputLabels(t, tape, bits, want)
			}
		}
	}
}

func TestInputLabelsInvalid(t *testing.T) {
	// A number that is no bit, at each place of lists of several lengths.
	for _, count := range []int{1, 2, 3, 40, maxBits - 1, maxBits, maxBits + 1} {
		bits := append(madeBits(count), 1)[:count]
		for place := range bits {
			for _, number := range notBits {
				checkInputLabels(t, impl.Tape{Seed: 5}, withNumber(bits, place, number), nil)
			}
		}
	}
	for _, count := range []int{maxBits + 1, maxBits + 2, 2 * maxBits, 256, 1000, maxGates} {
		checkInputLabels(t, impl.Tape{Seed: 5}, make([]int, count), nil)
		checkInputLabels(t, impl.Tape{Seed: 5}, slices.Repeat([]int{1}, count), nil)
	}
	for _, tape := range refusedTapes() {
		for _, bits := range append(bitSets(), nil, []int{0}, []int{1}, []int{2}, make([]int, maxBits+1)) {
			checkInputLabels(t, tape, bits, nil)
		}
	}
}

// The label of an input bit for its value is one of those of its gate.
func TestInputLabelsAreThoseOfGates(t *testing.T) {
	c := inputsOf(countsFrom(0, maxBits-1)...)
	for _, tape := range garblingTapes {
		g, _ := impl.Garble(c, tape)
		for _, bits := range bitSets() {
			for k, label := range impl.InputLabels(tape, bits) {
				if g.Zeros[k] != impl.InputZero(tape, k) || impl.ValueOf(g.Zeros[k], g.Delta, label) != bits[k] {
					t.Errorf("bit %d with the value %d has the label %d, and its gate %d with %d", k, bits[k], label, g.Zeros[k], g.Delta)
				}
			}
		}
	}
}

// guardedGarbled returns a garbling whose lists are parts of a larger list, which
// has other elements before and behind them.
func guardedGarbled(g impl.Garbled) (numbers []int, guarded impl.Garbled) {
	tables := len(g.Zeros) + 3
	numbers = slices.Concat([]int{77}, g.Zeros, []int{-5, 88}, g.Tables, []int{66, 55, 44})
	return numbers, impl.Garbled{Delta: g.Delta, Zeros: numbers[1 : 1+len(g.Zeros)], Tables: numbers[tables : tables+len(g.Tables)]}
}

// guardedCase has a circuit, a garbling of it and input bits in larger lists, and
// copies of these lists.
type guardedCase struct {
	c                   impl.Circuit
	g                   impl.Garbled
	bits                []int
	gates, gatesGiven   []impl.Gate
	lists, listsGiven   []int
	labels, labelsGiven []int
}

func guardedCaseOf(c impl.Circuit, g impl.Garbled) guardedCase {
	k := guardedCase{}
	k.gates, k.lists, k.c, k.bits = guardedCircuit(c)
	k.labels, k.g = guardedGarbled(g)
	k.gatesGiven, k.listsGiven, k.labelsGiven = slices.Clone(k.gates), slices.Clone(k.lists), slices.Clone(k.labels)
	return k
}

func (k guardedCase) check(t *testing.T) {
	t.Helper()
	if !slices.Equal(k.gates, k.gatesGiven) || !slices.Equal(k.lists, k.listsGiven) || !slices.Equal(k.labels, k.labelsGiven) {
		t.Errorf("the lists of %s were changed to %s, %s and %s", briefCircuit(k.c), briefResult(k.gates), briefResult(k.lists), briefResult(k.labels))
	}
}

// guardedCases are valid, and not.
func guardedCases() []guardedCase {
	cases := []guardedCase{}
	for seed, c := range slices.Concat(evalCircuits(), okCircuits(), wrongCircuits()[:200]) {
		g := fittingGarbling(c, seed)
		cases = append(cases, guardedCaseOf(c, g))
		for _, wrong := range []impl.Garbled{{Delta: g.Delta - 1, Zeros: g.Zeros, Tables: g.Tables}, {Delta: g.Delta, Zeros: append(slices.Clone(g.Zeros), 0), Tables: g.Tables}} {
			cases = append(cases, guardedCaseOf(c, wrong))
		}
	}
	return cases
}

// No function writes into its lists or behind them, and what is behind them does
// not count.
func TestGarblingLeavesTheLists(t *testing.T) {
	for _, k := range guardedCases() {
		for _, tape := range []impl.Tape{{Seed: 5}, {Seed: 7, At: maxStartAt + 1}} {
			if validCircuit(k.c) && tape.At == 0 {
				checkGarble(t, k.c, tape, garbledOf(k.c, tape))
				checkInputLabels(t, tape, k.bits, inputLabels(tape, k.bits))
				checkInputLabels(t, tape, k.bits[:3], inputLabels(tape, k.bits[:3]))
			} else {
				checkNoGarble(t, k.c, tape)
			}
			checkInputLabels(t, tape, k.bits[:maxBits+1], nil)
		}
		if validCircuit(k.c) && k.g.Delta%2 == 1 && len(k.g.Zeros) == len(k.c.Gates) {
			checkPublic(t, k.c, k.g, publicOf(k.c, k.g))
		} else {
			checkNoPublic(t, k.c, k.g)
		}
		k.check(t)
	}
}

// The results are new memory: neither that of an argument or of another result,
// nor that of another list of the same result.
func TestGarblingResultsAreNew(t *testing.T) {
	tape := impl.Tape{Seed: 5}
	for _, k := range guardedCases() {
		garbled, _ := impl.Garble(k.c, tape)
		again, _ := impl.Garble(k.c, tape)
		public, _ := impl.PublicOf(k.c, k.g)
		publicAgain, _ := impl.PublicOf(k.c, k.g)
		labels, labelsAgain := impl.InputLabels(tape, k.bits), impl.InputLabels(tape, k.bits)
		garbledGiven, publicGiven, labelsGiven := cloneGarbled(again), clonePublic(publicAgain), slices.Clone(labelsAgain)
		overwrite(garbled.Zeros)
		if !slices.Equal(garbled.Tables, garbledGiven.Tables) {
			t.Errorf("the labels and tables of %s share memory", briefCircuit(k.c))
		}
		overwrite(garbled.Tables)
		overwrite(labels)
		overwrite(public.Tables)
		if !slices.Equal(public.Consts, publicGiven.Consts) || !slices.Equal(public.Decode, publicGiven.Decode) {
			t.Errorf("the tables of the public part of %s share memory", briefCircuit(k.c))
		}
		overwrite(public.Consts)
		if !slices.Equal(public.Decode, publicGiven.Decode) {
			t.Errorf("the constants of the public part of %s share memory", briefCircuit(k.c))
		}
		overwrite(public.Decode)
		k.check(t)
		overwriteGates(k.gates)
		overwrite(k.lists)
		overwrite(k.labels)
		if !sameGarbled(again, garbledGiven) || !samePublic(publicAgain, publicGiven) || !slices.Equal(labelsAgain, labelsGiven) {
			t.Errorf("the results for %s share memory", briefCircuit(k.c))
		}
	}
}

// The labels and tables that are written behind a result stay apart.
func TestGarblingResultsCanBeExtended(t *testing.T) {
	c := impl.Circuit{Gates: gatesOf(tables), Outs: []int{14, 0}}
	want := garbledOf(c, impl.Tape{Seed: 5})
	g, _ := impl.Garble(c, impl.Tape{Seed: 5})
	p, _ := impl.PublicOf(c, g)
	for range 100 {
		_ = append(g.Zeros, -1, -2, -3)
		_ = append(g.Tables, -4, -5, -6)
		_ = append(p.Tables, -7, -8, -9)
		_ = append(p.Consts, -10, -11, -12)
		_ = append(p.Decode, -13, -14, -15)
	}
	if !sameGarbled(g, want) || !samePublic(p, publicOf(c, want)) {
		t.Error("the results were changed to", g, p)
	}
}

// The lists of the arguments can be the same, as far as they are valid.
func TestGarblingOfSharedLists(t *testing.T) {
	shared := []int{1, 0, 1}
	c := impl.Circuit{Gates: gatesOf("i0 1 0^1"), Outs: shared}
	g := impl.Garbled{Delta: 5, Zeros: shared}
	checkPublic(t, c, g, impl.Public{Consts: []int{5}, Decode: []int{0, 1, 0}})
	twice := []int{3, 4, 3, 4}
	d := impl.Circuit{Gates: gatesOf("i0 1 0&1 1&2"), Outs: twice[:0]}
	checkPublic(t, d, impl.Garbled{Delta: 7, Zeros: twice, Tables: twice}, impl.Public{Tables: []int{3, 4, 3, 4}, Consts: []int{3}})
	public, _ := impl.PublicOf(d, impl.Garbled{Delta: 7, Zeros: twice, Tables: twice})
	overwrite(twice)
	if !slices.Equal(public.Tables, []int{3, 4, 3, 4}) {
		t.Error("the public part shares memory with the garbling:", public)
	}
}

// The results are the same again, whatever was called in between.
func TestGarblingAgain(t *testing.T) {
	for range 10 {
		for _, c := range wrongCircuits()[:50] {
			impl.Garble(c, impl.Tape{Seed: 5})
			impl.PublicOf(c, fittingGarbling(c, 5))
		}
		for _, k := range garblings {
			c := circuitOf(gatesOf(k.gates)...)
			impl.Garble(c, impl.Tape{Seed: 99, At: maxTapeAt})
			impl.InputLabels(k.tape, madeBits(4))
			checkGarble(t, c, k.tape, k.want)
			checkPublic(t, c, k.want, publicOf(c, k.want))
		}
		checkInputZero(t, impl.Tape{Seed: 5}, 79, 52934)
		checkInputLabels(t, impl.Tape{Seed: 5}, []int{1, 0}, []int{29732, 60974})
	}
}
