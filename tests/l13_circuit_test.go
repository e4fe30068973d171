package tests

import (
	"fmt"
	"math"
	"slices"
	"testing"

	"loop.example/g00979/impl"
)

const (
	maxGates = 6000
	maxBits  = 80
)

// The types have the fields of the document, in its order.
var (
	_ = impl.Gate(struct{ Kind, A, B int }{})
	_ = impl.Circuit(struct {
		Gates []impl.Gate
		Outs  []int
	}{})
)

// gateKinds are the kinds of gates, in the order of their numbers.
var gateKinds = []int{1, 2, 3, 4, 5}

// notKinds are no kinds of gates, also some whose low bits are one.
var notKinds = []int{
	0, -1, -2, -3, -4, -5, 6, 7, 8, 9, 13, 16, 100, 255, 256, 257, 256 + 5, 65536 + 3, 1 << 32, 1<<32 + 1, 1<<32 + 4, -1 << 32, -1<<32 + 2, 1<<63 - 5,
	math.MaxInt64, math.MaxInt64 - 1, math.MinInt64, math.MinInt64 + 1, math.MinInt64 + 3, math.MinInt64 + 5,
}

func inputGate(bit int) impl.Gate { return impl.Gate{Kind: impl.GtInput, A: bit} }

func constGate(value int) impl.Gate { return impl.Gate{Kind: impl.GtConst, A: value} }

func xorGate(a int, b int) impl.Gate { return impl.Gate{Kind: impl.GtXor, A: a, B: b} }

func andGate(a int, b int) impl.Gate { return impl.Gate{Kind: impl.GtAnd, A: a, B: b} }

func notGate(a int) impl.Gate { return impl.Gate{Kind: impl.GtNot, A: a} }

// circuitOf returns the circuit with these gates and without outputs.
func circuitOf(gates ...impl.Gate) impl.Circuit { return impl.Circuit{Gates: gates} }

func cloneCircuit(c impl.Circuit) impl.Circuit {
	return impl.Circuit{Gates: slices.Clone(c.Gates), Outs: slices.Clone(c.Outs)}
}

func sameCircuit(a impl.Circuit, b impl.Circuit) bool {
	return slices.Equal(a.Gates, b.Gates) && slices.Equal(a.Outs, b.Outs)
}

// briefCircuit describes a circuit, of a large one only the beginning.
func briefCircuit(c impl.Circuit) string {
	return fmt.Sprintf("%d gates %.300s, outputs %.200s", len(c.Gates), fmt.Sprint(c.Gates[:min(len(c.Gates), 20)]), fmt.Sprint(c.Outs[:min(len(c.Outs), 20)]))
}

// gateSpans is the definition of the numbers A and B of a valid gate at an
// index. A range that ends before it begins has no numbers.
func gateSpans(kind int, at int) (a span, b span) {
	wires := span{0, max(at, 0) - 1}
	switch kind {
	case impl.GtInput:
		return span{0, maxBits - 1}, span{}
	case impl.GtConst:
		return span{0, 1}, span{}
	case impl.GtXor, impl.GtAnd:
		return wires, wires
	case impl.GtNot:
		return wires, span{}
	}
	return span{0, -1}, span{0, -1}
}

// validGate is the definition of a gate that is valid at an index.
func validGate(g impl.Gate, at int) bool {
	a, b := gateSpans(g.Kind, at)
	return a.low <= g.A && g.A <= a.high && b.low <= g.B && g.B <= b.high
}

func TestCircuitConstants(t *testing.T) {
	if impl.MaxGates != maxGates || impl.MaxBits != maxBits {
		t.Error("the limits differ from the document", impl.MaxGates, impl.MaxBits)
	}
	if !slices.Equal(gateKinds, []int{impl.GtInput, impl.GtConst, impl.GtXor, impl.GtAnd, impl.GtNot}) {
		t.Error("the kinds differ from the document")
	}
}

func checkGate(t *testing.T, g impl.Gate, at int, want bool) {
	t.Helper()
	if got := impl.GateOk(g, at); got != want {
		t.Errorf("GateOk(%+v, %d) = %v", g, at, got)
	}
}

func TestGateOk(t *testing.T) {
	cases := []struct {
		g    impl.Gate
		at   int
		want bool
	}{
		{inputGate(0), 0, true},
		{inputGate(79), 0, true},
		{inputGate(79), 3, true},
		{inputGate(40), maxGates - 1, true},
		{inputGate(80), 0, false},
		{inputGate(80), 100, false},
		{inputGate(-1), 5, false},
		{impl.Gate{Kind: impl.GtInput, A: 3, B: 1}, 5, false},
		{impl.Gate{Kind: impl.GtInput, A: 3, B: -1}, 5, false},
		{constGate(0), 0, true},
		{constGate(1), 0, true},
		{constGate(1), 77, true},
		{constGate(2), 77, false},
		{constGate(-1), 77, false},
		{impl.Gate{Kind: impl.GtConst, B: 1}, 5, false},
		{impl.Gate{Kind: impl.GtConst, A: 1, B: 1}, 5, false},
		{xorGate(0, 0), 1, true},
		{xorGate(0, 4), 5, true},
		{xorGate(4, 0), 5, true},
		{xorGate(4, 4), 5, true},
		{xorGate(-1, 0), 5, false},
		{xorGate(0, -1), 5, false},
		{andGate(0, 0), 1, true},
		{andGate(0, 4), 5, true},
		{andGate(4, 0), 5, true},
		{andGate(4, 4), 5, true},
		{andGate(-1, 0), 5, false},
		{andGate(0, -1), 5, false},
		{notGate(0), 1, true},
		{notGate(4), 5, true},
		{notGate(-1), 5, false},
		{impl.Gate{Kind: impl.GtNot, A: 3, B: 1}, 5, false},
		{impl.Gate{Kind: impl.GtNot, A: 3, B: 3}, 5, false},
		{impl.Gate{Kind: impl.GtNot, A: 3, B: -1}, 5, false},
		// A gate that uses itself, or a later one.
		{xorGate(5, 0), 5, false},
		{xorGate(0, 5), 5, false},
		{xorGate(5, 5), 5, false},
		{xorGate(6, 0), 5, false},
		{xorGate(0, 6), 5, false},
		{andGate(5, 0), 5, false},
		{andGate(0, 5), 5, false},
		{andGate(5, 5), 5, false},
		{andGate(6, 0), 5, false},
		{andGate(0, 6), 5, false},
		{notGate(5), 5, false},
		{notGate(6), 5, false},
		// At index 0 there are no wires yet.
		{xorGate(0, 0), 0, false},
		{andGate(0, 0), 0, false},
		{notGate(0), 0, false},
		{xorGate(-1, -1), 0, false},
		{notGate(-1), 0, false},
		// No kinds.
		{impl.Gate{}, 0, false},
		{impl.Gate{}, 9, false},
		{impl.Gate{Kind: 6, A: 1, B: 1}, 9, false},
		{impl.Gate{Kind: -1, A: 1}, 9, false},
	}
	for _, c := range cases {
		checkGate(t, c.g, c.at, c.want)
		if valid := validGate(c.g, c.at); valid != c.want {
			t.Errorf("the definition has %v for %+v at %d", valid, c.g, c.at)
		}
	}
}

// indexes are those of gates, also some that no circuit has.
var indexes = slices.Concat(countsFrom(-3, 84), []int{255, 256, 257, maxGates - 2, maxGates - 1, maxGates, maxGates + 1, 65536}, []int{
	1 << 32, 1<<32 + 2, -1 << 32, math.MaxInt64, math.MaxInt64 - 1, math.MinInt64, math.MinInt64 + 1, math.MinInt64 + 2,
})

// All kinds with all pairs of many numbers, around the limits of each index.
func TestGateOkOfAllNumbers(t *testing.T) {
	for _, at := range indexes {
		numbers := slices.Concat(countsFrom(-2, 3), []int{maxBits - 2, maxBits - 1, maxBits, maxBits + 1}, fieldNumbers, []int{at - 2, at - 1, at, at + 1, at + 2, -at})
		for _, kind := range slices.Concat(gateKinds, []int{0, 6}) {
			for _, a := range numbers {
				for _, b := range numbers {
					g := impl.Gate{Kind: kind, A: a, B: b}
					checkGate(t, g, at, validGate(g, at))
				}
			}
		}
	}
}

// A gate of no kind is not valid, whatever its numbers are.
func TestGateOkOfOtherKinds(t *testing.T) {
	for _, kind := range slices.Concat(notKinds, countsFrom(-300, 0), countsFrom(6, 300)) {
		for _, at := range indexes {
			for _, g := range []impl.Gate{{Kind: kind}, {Kind: kind, A: 1}, {Kind: kind, B: 1}, {Kind: kind, A: 2, B: 2}, {Kind: kind, A: 80, B: -1}} {
				checkGate(t, g, at, false)
			}
		}
	}
}

// At every index of a circuit, a gate can use each of the wires before it, and
// neither itself nor a later one.
func TestGateOkOfItself(t *testing.T) {
	for at := range maxGates + 2 {
		for _, wire := range []int{0, at / 2, at - 1, at, at + 1, at * 2, maxGates} {
			earlier := wire >= 0 && wire < at
			checkGate(t, notGate(wire), at, earlier)
			checkGate(t, xorGate(wire, wire), at, earlier)
			checkGate(t, andGate(wire, wire), at, earlier)
			checkGate(t, xorGate(wire, 0), at, earlier)
			checkGate(t, xorGate(0, wire), at, earlier)
			checkGate(t, andGate(wire, 0), at, earlier)
			checkGate(t, andGate(0, wire), at, earlier)
		}
	}
}

// validCircuit is the definition of a valid circuit.
func validCircuit(c impl.Circuit) bool {
	for at, g := range c.Gates {
		if at >= maxGates || !validGate(g, at) {
			return false
		}
	}
	for _, wire := range c.Outs {
		if wire < 0 || wire >= len(c.Gates) {
			return false
		}
	}
	return true
}

func checkCircuit(t *testing.T, c impl.Circuit, want bool) {
	t.Helper()
	before := cloneCircuit(c)
	if got := impl.CircuitOk(c); got != want {
		t.Errorf("CircuitOk of %s = %v", briefCircuit(before), got)
	}
	if !sameCircuit(c, before) {
		t.Errorf("CircuitOk changed %s to %s", briefCircuit(before), briefCircuit(c))
	}
}

// mixedCircuit has gates of all kinds and several outputs.
func mixedCircuit() impl.Circuit {
	return impl.Circuit{
		Gates: []impl.Gate{inputGate(0), inputGate(79), constGate(1), xorGate(0, 1), andGate(3, 2), notGate(4), constGate(0), andGate(5, 0), xorGate(7, 6), notGate(8), inputGate(41)},
		Outs:  []int{9, 0, 4, 9, 10},
	}
}

// largeCircuit returns a circuit with so many gates, which are of all kinds as
// soon as there are enough.
func largeCircuit(count int) impl.Circuit {
	first := []impl.Gate{inputGate(3), constGate(1), inputGate(4)}
	gates := []impl.Gate{}
	for at := range count {
		switch {
		case at < len(first):
			gates = append(gates, first[at])
		case at%4 == 0:
			gates = append(gates, andGate(at-1, at/2))
		case at%4 == 1:
			gates = append(gates, notGate(at-1))
		case at%4 == 2:
			gates = append(gates, xorGate(at-3, at-1))
		default:
			gates = append(gates, xorGate(at-1, 0))
		}
	}
	return impl.Circuit{Gates: gates}
}

// wrongGates returns gates that are not valid at an index.
func wrongGates(at int) []impl.Gate {
	wrong := []impl.Gate{
		{}, inputGate(-1), inputGate(maxBits), {Kind: impl.GtInput, B: 1}, {Kind: impl.GtInput, A: 1, B: -1},
		constGate(-1), constGate(2), {Kind: impl.GtConst, B: 1}, {Kind: impl.GtConst, A: 1, B: -1},
		{Kind: impl.GtNot, B: 1}, {Kind: impl.GtNot, A: at - 1, B: at - 1}, {Kind: impl.GtNot, B: -1},
	}
	for _, wire := range []int{-1, at, at + 1, at + 100, maxGates, math.MaxInt64, math.MinInt64} {
		wrong = append(wrong, xorGate(wire, 0), xorGate(0, wire), xorGate(wire, wire), andGate(wire, 0), andGate(0, wire), andGate(wire, wire), notGate(wire))
	}
	for _, kind := range notKinds {
		wrong = append(wrong, impl.Gate{Kind: kind})
	}
	// Some of these are valid at some indexes, like a GtNot gate of wire 0 at 1.
	return slices.DeleteFunc(wrong, func(g impl.Gate) bool { return validGate(g, at) })
}

// withGate returns a circuit that has another gate at one place.
func withGate(c impl.Circuit, place int, g impl.Gate) impl.Circuit {
	changed := cloneCircuit(c)
	changed.Gates[place] = g
	return changed
}

// wrongCircuits returns circuits that are not valid: a wrong gate at each place,
// also as the only gate, a wrong output, and too many gates.
func wrongCircuits() []impl.Circuit {
	mixed := mixedCircuit()
	wrong := []impl.Circuit{{Outs: []int{0}}, {Outs: []int{-1}}, {Outs: []int{1}}, {Gates: []impl.Gate{}, Outs: []int{0, 0}}}
	for place := range mixed.Gates {
		for _, g := range wrongGates(place) {
			wrong = append(wrong, withGate(mixed, place, g), impl.Circuit{Gates: withGate(mixed, place, g).Gates})
		}
	}
	for _, g := range wrongGates(0) {
		wrong = append(wrong, circuitOf(g), impl.Circuit{Gates: []impl.Gate{g}, Outs: []int{0}})
	}
	for _, g := range wrongGates(len(mixed.Gates)) {
		wrong = append(wrong, impl.Circuit{Gates: append(mixedCircuit().Gates, g), Outs: mixed.Outs})
	}
	for _, wire := range []int{-1, -2, len(mixed.Gates), len(mixed.Gates) + 1, maxGates - 1, maxGates, 1 << 32, math.MaxInt64, math.MinInt64} {
		wrong = append(wrong, impl.Circuit{Gates: mixed.Gates, Outs: []int{wire}})
		for place := range mixed.Outs {
			wrong = append(wrong, impl.Circuit{Gates: mixed.Gates, Outs: withNumber(mixed.Outs, place, wire)})
		}
	}
	for _, count := range []int{maxGates + 1, maxGates + 2, 2 * maxGates} {
		c := largeCircuit(count)
		wrong = append(wrong, c, impl.Circuit{Gates: c.Gates, Outs: []int{0, 5}}, circuitOf(slices.Repeat([]impl.Gate{constGate(1)}, count)...))
	}
	return wrong
}

func TestCircuitOk(t *testing.T) {
	checkCircuit(t, impl.Circuit{}, true)
	checkCircuit(t, impl.Circuit{Gates: []impl.Gate{}, Outs: []int{}}, true)
	checkCircuit(t, impl.Circuit{Gates: make([]impl.Gate, 0, 9), Outs: make([]int, 0, 9)}, true)
	checkCircuit(t, circuitOf(constGate(1)), true)
	checkCircuit(t, circuitOf(inputGate(79), notGate(0)), true)
	checkCircuit(t, mixedCircuit(), true)
	checkCircuit(t, circuitOf(mixedCircuit().Gates...), true)
	// Each gate is valid at its own index, and not at an earlier one.
	checkCircuit(t, circuitOf(inputGate(0), inputGate(1), andGate(0, 1), notGate(2)), true)
	checkCircuit(t, circuitOf(inputGate(0), andGate(0, 1), inputGate(1), notGate(2)), false)
	checkCircuit(t, circuitOf(inputGate(0), inputGate(1), notGate(3), andGate(0, 1)), false)
	checkCircuit(t, circuitOf(notGate(0)), false)
	for _, c := range wrongCircuits() {
		checkCircuit(t, c, false)
		if validCircuit(c) {
			t.Errorf("the definition takes %s for a circuit", briefCircuit(c))
		}
	}
}

// A wrong gate is noticed at every place, whatever is before and behind it.
func TestCircuitOkOfOneWrongGate(t *testing.T) {
	large := largeCircuit(300)
	checkCircuit(t, large, true)
	for place := range large.Gates {
		for _, g := range wrongGates(place) {
			checkCircuit(t, withGate(large, place, g), false)
		}
	}
	most := largeCircuit(maxGates)
	for _, place := range []int{0, 1, 255, 256, maxGates / 2, maxGates - 2, maxGates - 1} {
		for _, g := range wrongGates(place) {
			checkCircuit(t, withGate(most, place, g), false)
		}
	}
}

// All lists of two gates out of many, valid or not, with and without outputs.
func TestCircuitOkOfAllShortLists(t *testing.T) {
	gates := []impl.Gate{}
	for kind := range 7 {
		for a := -1; a <= 2; a++ {
			for b := -1; b <= 2; b++ {
				gates = append(gates, impl.Gate{Kind: kind, A: a, B: b})
			}
		}
	}
	for _, first := range gates {
		for _, outs := range [][]int{nil, {0}, {1}, {-1}, {0, 0}} {
			c := impl.Circuit{Gates: []impl.Gate{first}, Outs: outs}
			checkCircuit(t, c, validCircuit(c))
		}
		for _, second := range gates {
			for _, outs := range [][]int{nil, {1}, {0, 1}, {2}} {
				c := impl.Circuit{Gates: []impl.Gate{first, second}, Outs: outs}
				checkCircuit(t, c, validCircuit(c))
			}
		}
	}
}

// Circuits with as many gates as there may be, and with more.
func TestCircuitOkOfManyGates(t *testing.T) {
	for _, count := range []int{1, 2, 3, 255, 256, 257, maxGates - 2, maxGates - 1, maxGates, maxGates + 1, maxGates + 2, 2 * maxGates, 65536, 65536 + 3} {
		fits := count <= maxGates
		checkCircuit(t, largeCircuit(count), fits)
		for _, g := range []impl.Gate{inputGate(7), constGate(0)} {
			gates := slices.Repeat([]impl.Gate{g}, count)
			checkCircuit(t, circuitOf(gates...), fits)
			checkCircuit(t, impl.Circuit{Gates: gates, Outs: []int{0, count / 2, count - 1}}, fits)
			for _, wire := range []int{-1, count, count + 1} {
				checkCircuit(t, impl.Circuit{Gates: gates, Outs: []int{wire}}, false)
			}
		}
	}
}

// Each gate can be an output, also several times, and there can be more outputs
// than gates. Every number that is no gate is noticed at every place.
func TestCircuitOkOfOutputs(t *testing.T) {
	for count := range 12 {
		gates := largeCircuit(count).Gates
		for wire := -3; wire <= count+3; wire++ {
			exists := wire >= 0 && wire < count
			checkCircuit(t, impl.Circuit{Gates: gates, Outs: []int{wire}}, exists)
			for _, length := range []int{2, 3, 20} {
				checkCircuit(t, impl.Circuit{Gates: gates, Outs: slices.Repeat([]int{wire}, length)}, exists)
				for place := range length {
					checkCircuit(t, impl.Circuit{Gates: gates, Outs: withNumber(make([]int, length), place, wire)}, exists)
				}
			}
		}
	}
	gates := mixedCircuit().Gates
	for _, length := range []int{maxBits, maxBits + 1, maxGates, maxGates + 1, 20000} {
		checkCircuit(t, impl.Circuit{Gates: gates, Outs: slices.Repeat([]int{10}, length)}, true)
		checkCircuit(t, impl.Circuit{Gates: gates, Outs: append(slices.Repeat([]int{10}, length), 11)}, false)
		checkCircuit(t, impl.Circuit{Gates: gates, Outs: append([]int{-1}, slices.Repeat([]int{10}, length)...)}, false)
	}
}

// bitsAt returns input bits of which those at these places are 1.
func bitsAt(places ...int) []int {
	bits := make([]int, maxBits)
	for _, place := range places {
		bits[place] = 1
	}
	return bits
}

// madeBits returns input bits that only the seed determines.
func madeBits(seed int) []int {
	bits := []int{}
	for place := range maxBits {
		bits = append(bits, int(mixWord(uint32(seed*maxBits+place)+5)>>11)%2)
	}
	return bits
}

func bitSets() [][]int {
	return [][]int{make([]int, maxBits), slices.Repeat([]int{1}, maxBits), slices.Repeat([]int{0, 1}, maxBits/2), bitsAt(0), bitsAt(79), madeBits(1), madeBits(2)}
}

// The values of a GtXor, a GtAnd and a GtNot gate for those of its operands.
var (
	xorValues = [2][2]int{{0, 1}, {1, 0}}
	andValues = [2][2]int{{0, 0}, {0, 1}}
	notValues = [2]int{1, 0}
)

// gateResult is the definition of the value of a gate, where values has those of
// the wires before it.
func gateResult(g impl.Gate, values []int, bits []int) int {
	switch g.Kind {
	case impl.GtInput:
		return bits[g.A]
	case impl.GtXor:
		return xorValues[values[g.A]][values[g.B]]
	case impl.GtAnd:
		return andValues[values[g.A]][values[g.B]]
	case impl.GtNot:
		return notValues[values[g.A]]
	}
	return g.A
}

// valuesAt returns the values of some wires.
func valuesAt(values []int, wires []int) []int {
	chosen := []int{}
	for _, wire := range wires {
		chosen = append(chosen, values[wire])
	}
	return chosen
}

// checkEval checks the values of the wires and of the outputs, and that the
// circuit and the bits stay as they are.
func checkEval(t *testing.T, c impl.Circuit, bits []int, want []int) {
	t.Helper()
	before, given := cloneCircuit(c), slices.Clone(bits)
	if got := impl.EvalWires(c, bits); !slices.Equal(got, want) {
		t.Errorf("EvalWires of %s with %v = %.300s; want %.300s", briefCircuit(before), given, fmt.Sprint(got), fmt.Sprint(want))
	}
	outs := valuesAt(want, before.Outs)
	if got, ok := impl.EvalCircuit(c, bits); !slices.Equal(got, outs) || !ok {
		t.Errorf("EvalCircuit of %s with %v = %.300s, %v; want %.300s", briefCircuit(before), given, fmt.Sprint(got), ok, fmt.Sprint(outs))
	}
	if !sameCircuit(c, before) || !slices.Equal(bits, given) {
		t.Errorf("%s and %v were changed to %s and %v", briefCircuit(before), given, briefCircuit(c), bits)
	}
}

// checkSatisfied checks that the value of each wire is that of its gate's
// operation on the values of the wires that the gate names.
func checkSatisfied(t *testing.T, c impl.Circuit, bits []int) {
	t.Helper()
	values := []int{}
	for _, g := range c.Gates {
		values = append(values, gateResult(g, values, bits))
	}
	checkEval(t, c, bits, values)
	got := impl.EvalWires(c, bits)
	for at, g := range c.Gates {
		if at >= len(got) || got[at] != gateResult(g, got[:at], bits) {
			t.Errorf("wire %d of %s does not satisfy %+v", at, briefCircuit(c), g)
			return
		}
	}
}

func checkNoEval(t *testing.T, c impl.Circuit, bits []int) {
	t.Helper()
	before, given := cloneCircuit(c), slices.Clone(bits)
	if got := impl.EvalWires(c, bits); len(got) != 0 {
		t.Errorf("EvalWires of %s with %.300s = %.300s", briefCircuit(before), fmt.Sprint(given), fmt.Sprint(got))
	}
	if got, ok := impl.EvalCircuit(c, bits); len(got) != 0 || ok {
		t.Errorf("EvalCircuit of %s with %.300s = %.300s, %v", briefCircuit(before), fmt.Sprint(given), fmt.Sprint(got), ok)
	}
	if !sameCircuit(c, before) || !slices.Equal(bits, given) {
		t.Errorf("%s and %.300s were changed to %s and %.300s", briefCircuit(before), fmt.Sprint(given), briefCircuit(c), fmt.Sprint(bits))
	}
}

func TestEvalCircuit(t *testing.T) {
	adder := []impl.Gate{inputGate(0), inputGate(1), inputGate(2), xorGate(0, 2), xorGate(1, 2), xorGate(0, 4), andGate(3, 4), xorGate(6, 2)}
	cases := []struct {
		gates []impl.Gate
		outs  []int
		bits  []int
		want  []int
	}{
		{nil, nil, bitsAt(), nil},
		{nil, nil, bitsAt(0, 1, 79), nil},
		{[]impl.Gate{constGate(0)}, []int{0}, bitsAt(0), []int{0}},
		{[]impl.Gate{constGate(1)}, []int{0}, bitsAt(), []int{1}},
		{[]impl.Gate{inputGate(5)}, []int{0}, bitsAt(5), []int{1}},
		{[]impl.Gate{inputGate(5)}, []int{0}, bitsAt(4, 6), []int{0}},
		{[]impl.Gate{inputGate(0), inputGate(1), andGate(0, 1), notGate(2)}, []int{3, 2}, bitsAt(0), []int{1, 0, 0, 1}},
		{[]impl.Gate{inputGate(0), inputGate(1), andGate(0, 1), notGate(2)}, []int{3, 2}, bitsAt(0, 1), []int{1, 1, 1, 0}},
		{adder, []int{5, 7}, bitsAt(), []int{0, 0, 0, 0, 0, 0, 0, 0}},
		{adder, []int{5, 7}, bitsAt(0), []int{1, 0, 0, 1, 0, 1, 0, 0}},
		{adder, []int{5, 7}, bitsAt(1, 2), []int{0, 1, 1, 1, 0, 0, 0, 1}},
		{adder, []int{7, 5, 7}, bitsAt(0, 1, 2), []int{1, 1, 1, 0, 0, 1, 0, 1}},
		{mixedCircuit().Gates, mixedCircuit().Outs, bitsAt(0), []int{1, 0, 1, 1, 1, 0, 0, 0, 0, 1, 0}},
		{mixedCircuit().Gates, mixedCircuit().Outs, bitsAt(0, 79, 41), []int{1, 1, 1, 0, 0, 1, 0, 1, 1, 0, 1}},
		{mixedCircuit().Gates, mixedCircuit().Outs, bitsAt(1, 40, 78), []int{0, 0, 1, 0, 0, 1, 0, 0, 0, 1, 0}},
	}
	for _, c := range cases {
		circuit := impl.Circuit{Gates: c.gates, Outs: c.outs}
		checkEval(t, circuit, c.bits, c.want)
		checkSatisfied(t, circuit, c.bits)
	}
}

// Each kind on all values of its wires, in both orders and twice the same wire.
func TestEvalOfEachKind(t *testing.T) {
	for left := range 2 {
		for right := range 2 {
			gates := []impl.Gate{constGate(left), constGate(right), xorGate(0, 1), xorGate(1, 0), xorGate(0, 0), xorGate(1, 1), andGate(0, 1), andGate(1, 0), andGate(0, 0), andGate(1, 1), notGate(0), notGate(1)}
			sum, product := (left+right)%2, left*right
			want := []int{left, right, sum, sum, 0, 0, product, product, left, right, 1 - left, 1 - right}
			c := impl.Circuit{Gates: gates, Outs: countsFrom(0, len(gates)-1)}
			for _, bits := range bitSets() {
				checkEval(t, c, bits, want)
			}
			for first := range maxBits {
				second := (first + 1 + first*first%(maxBits-1)) % maxBits
				c.Gates[0], c.Gates[1] = inputGate(first), inputGate(second)
				bits := make([]int, maxBits)
				bits[first], bits[second] = left, right
				checkEval(t, c, bits, want)
				for place, bit := range bits {
					if place != first && place != second {
						bits[place] = 1 - bit
					}
				}
				checkEval(t, c, bits, want)
			}
		}
	}
}

// Each input bit alone, and each bit but one: a gate has the value of its own
// bit, and no other bit changes it.
func TestEvalOfEachInputBit(t *testing.T) {
	all, back := impl.Circuit{}, impl.Circuit{}
	for bit := range maxBits {
		all.Gates, all.Outs = append(all.Gates, inputGate(bit)), append(all.Outs, maxBits-1-bit)
		back.Gates, back.Outs = append(back.Gates, inputGate(maxBits-1-bit)), append(back.Outs, bit)
	}
	for bit := range maxBits {
		one := impl.Circuit{Gates: []impl.Gate{inputGate(bit)}, Outs: []int{0}}
		for place := range maxBits {
			bits := bitsAt(place)
			value := bits[bit]
			checkEval(t, one, bits, []int{value})
			for i := range bits {
				bits[i] = 1 - bits[i]
			}
			checkEval(t, one, bits, []int{1 - value})
		}
		bits := bitsAt(bit)
		checkEval(t, all, bits, bits)
		checkEval(t, back, bits, bitsAt(maxBits-1-bit))
	}
	for _, bits := range bitSets() {
		checkEval(t, all, bits, bits)
		reversed := slices.Clone(bits)
		slices.Reverse(reversed)
		checkEval(t, back, bits, reversed)
	}
}

// The same bit can be read by several gates, and another one by none.
func TestEvalOfRepeatedInputs(t *testing.T) {
	gates := slices.Repeat([]impl.Gate{inputGate(7), inputGate(70), inputGate(7)}, 30)
	c := impl.Circuit{Gates: gates, Outs: []int{89, 0, 1}}
	checkEval(t, c, bitsAt(7), slices.Repeat([]int{1, 0, 1}, 30))
	checkEval(t, c, bitsAt(70), slices.Repeat([]int{0, 1, 0}, 30))
	checkEval(t, c, bitsAt(8, 71, 6, 69, 0, 77), make([]int, 90))
}

// Chains of one kind of gates, up to the largest circuit, whose values are known.
func TestEvalOfChains(t *testing.T) {
	for _, length := range append(countsFrom(1, 60), 255, 256, 257, maxGates-1, maxGates) {
		for bit := range 2 {
			gates := []impl.Gate{constGate(bit)}
			want := []int{bit}
			for at := 1; at < length; at++ {
				gates = append(gates, notGate(at-1))
				want = append(want, (bit+at)%2)
			}
			checkEval(t, impl.Circuit{Gates: gates, Outs: []int{length - 1, 0}}, bitsAt(), want)
			for _, kind := range []int{impl.GtXor, impl.GtAnd} {
				checkOneChain(t, kind, length, bit)
			}
		}
		gates, want := []impl.Gate{}, []int{}
		for at := range length {
			if at < 2 {
				gates = append(gates, inputGate(at))
			} else {
				gates = append(gates, xorGate(at-1, at-2))
			}
			want = append(want, []int{1, 0, 1}[at%3])
		}
		checkEval(t, impl.Circuit{Gates: gates, Outs: []int{length - 1}}, bitsAt(0), want)
	}
}

// checkOneChain checks a chain of gates that all have wire 0 as the other
// operand, on alternating sides, and begin with wire 1, a 1.
func checkOneChain(t *testing.T, kind int, length int, bit int) {
	t.Helper()
	gates, want := []impl.Gate{inputGate(50), constGate(1)}, []int{bit, 1}
	for at := 2; at < length; at++ {
		g := impl.Gate{Kind: kind, A: at - 1, B: 0}
		if at%2 == 1 {
			g.A, g.B = g.B, g.A
		}
		gates = append(gates, g)
		if kind == impl.GtXor {
			want = append(want, (1+(at-1)*bit)%2)
		} else {
			want = append(want, bit)
		}
	}
	checkEval(t, impl.Circuit{Gates: gates, Outs: []int{len(gates) - 1}}, slices.Repeat([]int{bit}, maxBits), want)
}

// The exclusive or and the and of all input bits, one behind the other.
func TestEvalOfAllInputsTogether(t *testing.T) {
	gates := []impl.Gate{}
	for bit := range maxBits {
		gates = append(gates, inputGate(bit))
	}
	for _, kind := range []int{impl.GtXor, impl.GtAnd} {
		chain := append(slices.Clone(gates), impl.Gate{Kind: kind, A: 0, B: 1})
		for bit := 2; bit < maxBits; bit++ {
			chain = append(chain, impl.Gate{Kind: kind, A: len(chain) - 1, B: bit})
		}
		c := impl.Circuit{Gates: chain, Outs: []int{len(chain) - 1}}
		sets := bitSets()
		for place := range maxBits {
			bits := slices.Repeat([]int{1}, maxBits)
			bits[place] = 0
			sets = append(sets, bits, bitsAt(place), bitsAt(place, (place+37)%maxBits))
		}
		for _, bits := range sets {
			ones, want := bits[0], slices.Clone(bits)
			for i, bit := range bits[1:] {
				ones += bit
				if kind == impl.GtXor {
					want = append(want, ones%2)
				} else {
					want = append(want, ones/(i+2))
				}
			}
			checkEval(t, c, bits, want)
		}
	}
}

// Outputs in any order, each wire alone, twice, all of them, and none.
func TestEvalOfOutputs(t *testing.T) {
	c := mixedCircuit()
	bits := bitsAt(0, 41)
	want := []int{1, 0, 1, 1, 1, 0, 0, 0, 0, 1, 1}
	lists := [][]int{nil, {}, {0, 0}, {9, 9, 9}, {10, 0, 10, 0}, countsFrom(0, 10), {10, 9, 8, 7, 6, 5, 4, 3, 2, 1, 0}, slices.Repeat([]int{4, 5}, 3000), slices.Repeat([]int{10}, maxGates+1)}
	for wire := range c.Gates {
		lists = append(lists, []int{wire}, []int{wire, wire}, []int{wire, 0, wire}, []int{10, wire})
	}
	for _, outs := range lists {
		checkEval(t, impl.Circuit{Gates: c.Gates, Outs: outs}, bits, want)
		got, _ := impl.EvalCircuit(impl.Circuit{Gates: c.Gates, Outs: outs}, bits)
		for i, wire := range outs {
			if i >= len(got) || got[i] != want[wire] {
				t.Errorf("output %d of %.200s, which is wire %d, is not %d", i, fmt.Sprint(outs), wire, want[wire])
				break
			}
		}
	}
}

// gatesAt returns some gates of all kinds that are valid at an index, with all
// wires before it as operands.
func gatesAt(at int) []impl.Gate {
	gates := []impl.Gate{inputGate(0), inputGate(79), constGate(0), constGate(1)}
	for a := range at {
		gates = append(gates, notGate(a))
		for b := range at {
			gates = append(gates, xorGate(a, b), andGate(a, b))
		}
	}
	return gates
}

// smallCircuits calls use for all circuits of so many gates out of gatesAt.
func smallCircuits(count int, use func(c impl.Circuit)) {
	gates, outs := make([]impl.Gate, count), make([]int, count)
	for i := range outs {
		outs[i] = count - 1 - i
	}
	var choose func(at int)
	choose = func(at int) {
		if at == count {
			use(impl.Circuit{Gates: gates, Outs: outs})
			return
		}
		for _, g := range gatesAt(at) {
			gates[at] = g
			choose(at + 1)
		}
	}
	choose(0)
}

// All circuits of up to four gates with two input bits, on all values of these.
func TestEvalOfAllSmallCircuits(t *testing.T) {
	circuits := 0
	for count := range 5 {
		smallCircuits(count, func(c impl.Circuit) {
			circuits++
			for _, bits := range [][]int{bitsAt(), bitsAt(0), bitsAt(79), bitsAt(0, 79)} {
				checkSatisfied(t, c, bits)
			}
		})
	}
	if circuits != 1+4+4*7+4*7*14+4*7*14*25 {
		t.Errorf("%d circuits were tried", circuits)
	}
}

// madeCircuit returns a circuit that only the seed determines, of at most so
// many gates.
func madeCircuit(seed int, most int) impl.Circuit {
	word := uint32(seed) * 2654435769
	next := func(n int) int {
		word = mixWord(word + 1)
		return int(word>>8) % n
	}
	count, near, sources := next(most+1), 1+next(30), 1+next(10)
	c := impl.Circuit{}
	pick := func() int { return len(c.Gates) - 1 - next(min(len(c.Gates), near)) }
	for len(c.Gates) < count {
		kind := next(9)
		switch {
		case len(c.Gates) < sources || kind == 0:
			c.Gates = append(c.Gates, inputGate(next(maxBits)))
		case kind == 1:
			c.Gates = append(c.Gates, constGate(next(2)))
		case kind == 2:
			c.Gates = append(c.Gates, notGate(pick()))
		case kind < 6:
			c.Gates = append(c.Gates, xorGate(pick(), pick()))
		default:
			c.Gates = append(c.Gates, andGate(pick(), pick()))
		}
	}
	for range next(12) {
		if count > 0 {
			c.Outs = append(c.Outs, next(count))
		}
	}
	return c
}

// Larger circuits, with operands near and far, and the largest ones. The start
// of a circuit has the same values as the whole one.
func TestEvalOfMadeCircuits(t *testing.T) {
	ones, zeros := 0, 0
	for seed := range 2000 {
		c := madeCircuit(seed, 150)
		for _, bits := range append(bitSets(), madeBits(seed)) {
			checkSatisfied(t, c, bits)
		}
		bits := madeBits(seed + 7)
		values := impl.EvalWires(c, bits)
		for _, value := range values {
			ones, zeros = ones+value, zeros+1-value
		}
		count := len(c.Gates) / 2
		checkEval(t, circuitOf(c.Gates[:count]...), bits, values[:count])
	}
	if ones < 20000 || zeros < 20000 {
		t.Errorf("%d wires with the value 1 and %d with 0 were tried", ones, zeros)
	}
	for seed := range 10 {
		checkSatisfied(t, madeCircuit(seed, maxGates), madeBits(seed))
		c := largeCircuit(maxGates - seed)
		c.Outs = []int{0, len(c.Gates) - 1, len(c.Gates) / 2}
		checkSatisfied(t, c, madeBits(seed))
	}
}

// A circuit that is not valid has no values, also if only an output is wrong or
// the wrong gate is used by none.
func TestEvalOfInvalidCircuits(t *testing.T) {
	for _, c := range wrongCircuits() {
		for _, bits := range bitSets() {
			checkNoEval(t, c, bits)
		}
		checkNoEval(t, c, nil)
		checkNoEval(t, c, withNumber(bitsAt(), 0, 2))
	}
}

// evalCircuits are valid, also without inputs, outputs or gates.
func evalCircuits() []impl.Circuit {
	return []impl.Circuit{
		{},
		circuitOf(constGate(1)),
		{Gates: []impl.Gate{constGate(1)}, Outs: []int{0}},
		{Gates: []impl.Gate{inputGate(0)}, Outs: []int{0}},
		{Gates: []impl.Gate{inputGate(79), notGate(0)}, Outs: []int{1}},
		mixedCircuit(),
		largeCircuit(100),
	}
}

// All numbers of bits but the right one.
func TestEvalOfOtherNumbersOfBits(t *testing.T) {
	for _, c := range evalCircuits() {
		checkSatisfied(t, c, bitsAt())
		checkNoEval(t, c, nil)
		checkNoEval(t, c, make([]int, 0, maxBits))
		checkNoEval(t, c, bitsAt()[:maxBits-1])
		checkNoEval(t, c, make([]int, maxBits+1)[:maxBits-1])
		for count := range 4 * maxBits {
			if count != maxBits {
				checkNoEval(t, c, make([]int, count))
				checkNoEval(t, c, slices.Repeat([]int{1}, count))
			}
		}
		for _, count := range []int{256 + maxBits, 65536 + maxBits, maxGates} {
			checkNoEval(t, c, make([]int, count))
		}
	}
}

// A number that is no bit at each place, whether the circuit reads it or not.
func TestEvalOfOtherBits(t *testing.T) {
	for _, c := range evalCircuits() {
		for _, right := range bitSets() {
			for place := range maxBits {
				for _, n := range slices.Concat(countsFrom(-9, -1), countsFrom(2, 20), fieldNumbers) {
					if n != 0 && n != 1 {
						checkNoEval(t, c, withNumber(right, place, n))
					}
				}
			}
		}
		for _, n := range []int{-1, 2, 3, 256, math.MinInt64} {
			checkNoEval(t, c, slices.Repeat([]int{n}, maxBits))
		}
	}
}

func checkGateCount(t *testing.T, c impl.Circuit, kind int, want int) {
	t.Helper()
	before := cloneCircuit(c)
	if got := impl.CountGates(c, kind); got != want {
		t.Errorf("CountGates of %s for %d = %d; want %d", briefCircuit(before), kind, got, want)
	}
	if !sameCircuit(c, before) {
		t.Errorf("CountGates changed %s to %s", briefCircuit(before), briefCircuit(c))
	}
}

// checkGateCounts checks the numbers of gates of all kinds, and of many numbers
// that are none.
func checkGateCounts(t *testing.T, c impl.Circuit) {
	t.Helper()
	counts := map[int]int{}
	for _, g := range c.Gates {
		counts[g.Kind]++
	}
	for _, kind := range slices.Concat(gateKinds, notKinds, []int{10, 11, 12, 64, 128}) {
		checkGateCount(t, c, kind, counts[kind])
	}
}

func TestCountGates(t *testing.T) {
	mixed := mixedCircuit()
	for kind, want := range []int{0, 3, 2, 2, 2, 2, 0} {
		checkGateCount(t, mixed, kind, want)
		checkGateCount(t, circuitOf(mixed.Gates...), kind, want)
	}
	for _, kind := range slices.Concat(gateKinds, notKinds) {
		checkGateCount(t, impl.Circuit{}, kind, 0)
		checkGateCount(t, impl.Circuit{Outs: []int{kind}}, kind, 0)
		// A gate is counted by its kind only, and not by its other numbers.
		for _, other := range gateKinds {
			if other != kind {
				checkGateCount(t, circuitOf(impl.Gate{Kind: other, A: kind, B: kind}), kind, 0)
			}
		}
		for count := range 40 {
			checkGateCount(t, circuitOf(slices.Repeat([]impl.Gate{{Kind: kind}}, count)...), kind, count)
		}
	}
	// Each place counts, also the first and the last.
	for place := range 20 {
		for _, kind := range []int{impl.GtAnd, impl.GtNot, 0} {
			c := withGate(circuitOf(slices.Repeat([]impl.Gate{constGate(1)}, 20)...), place, impl.Gate{Kind: kind})
			checkGateCount(t, c, kind, 1)
			checkGateCount(t, c, impl.GtConst, 19)
		}
	}
}

// Circuits that are not valid are counted as they are, also those with too many
// gates, and so are gates of no kind.
func TestCountGatesOfAnyCircuit(t *testing.T) {
	for seed := range 300 {
		checkGateCounts(t, madeCircuit(seed, 100))
	}
	for _, c := range wrongCircuits() {
		checkGateCounts(t, c)
	}
	for _, count := range []int{maxGates - 1, maxGates, maxGates + 1, 20000} {
		checkGateCounts(t, largeCircuit(count))
		for _, kind := range []int{impl.GtInput, impl.GtAnd, impl.GtNot, 0, -1, 9} {
			checkGateCount(t, circuitOf(slices.Repeat([]impl.Gate{{Kind: kind}}, count)...), kind, count)
		}
	}
	noKind := circuitOf(impl.Gate{Kind: 9}, impl.Gate{Kind: -1}, impl.Gate{Kind: 9}, impl.Gate{}, andGate(7, -1))
	for kind, want := range map[int]int{9: 2, -1: 1, 0: 1, impl.GtAnd: 1, impl.GtXor: 0} {
		checkGateCount(t, noKind, kind, want)
	}
}

func checkDepth(t *testing.T, c impl.Circuit, want int) {
	t.Helper()
	before := cloneCircuit(c)
	if got := impl.AndDepth(c); got != want {
		t.Errorf("AndDepth of %s = %d; want %d", briefCircuit(before), got, want)
	}
	if !sameCircuit(c, before) {
		t.Errorf("AndDepth changed %s to %s", briefCircuit(before), briefCircuit(c))
	}
}

// uses reports whether a gate uses a wire.
func uses(g impl.Gate, wire int) bool {
	operands := map[int][]int{impl.GtXor: {g.A, g.B}, impl.GtAnd: {g.A, g.B}, impl.GtNot: {g.A}}[g.Kind]
	return slices.Contains(operands, wire)
}

// deepestPath is the definition of the depth: it follows all paths from gates
// without inputs.
func deepestPath(c impl.Circuit) int {
	deepest := 0
	var follow func(wire int, ands int)
	follow = func(wire int, ands int) {
		if c.Gates[wire].Kind == impl.GtAnd {
			ands++
		}
		deepest = max(deepest, ands)
		for at, g := range c.Gates {
			if uses(g, wire) {
				follow(at, ands)
			}
		}
	}
	for at, g := range c.Gates {
		if g.Kind == impl.GtInput || g.Kind == impl.GtConst {
			follow(at, 0)
		}
	}
	return deepest
}

// deepestLevel is the depth by another rule, for circuits with many paths: the
// wires of the next level are the GtAnd gates that use one of this level, and
// all gates that use one of the next level.
func deepestLevel(c impl.Circuit) int {
	level := make([]bool, len(c.Gates))
	for at := range level {
		level[at] = true
	}
	for depth := 0; ; depth++ {
		next, found := make([]bool, len(c.Gates)), false
		for at, g := range c.Gates {
			if g.Kind == impl.GtInput || g.Kind == impl.GtConst {
				continue
			}
			first, second := g.A, g.A
			if g.Kind != impl.GtNot {
				second = g.B
			}
			next[at] = next[first] || next[second] || g.Kind == impl.GtAnd && (level[first] || level[second])
			found = found || next[at]
		}
		if !found {
			return depth
		}
		level = next
	}
}

func TestAndDepth(t *testing.T) {
	cases := []struct {
		gates []impl.Gate
		want  int
	}{
		{nil, 0},
		{[]impl.Gate{}, 0},
		{[]impl.Gate{constGate(1)}, 0},
		{[]impl.Gate{inputGate(4)}, 0},
		{[]impl.Gate{inputGate(0), constGate(0), xorGate(0, 1), notGate(2), xorGate(3, 3)}, 0},
		{[]impl.Gate{constGate(1), andGate(0, 0)}, 1},
		{[]impl.Gate{inputGate(0), inputGate(1), andGate(0, 1)}, 1},
		{[]impl.Gate{inputGate(0), inputGate(1), andGate(0, 1), andGate(0, 1), andGate(1, 0)}, 1},
		{[]impl.Gate{inputGate(0), inputGate(1), andGate(0, 1), notGate(2)}, 1},
		{[]impl.Gate{inputGate(0), inputGate(1), andGate(0, 1), andGate(2, 0)}, 2},
		{[]impl.Gate{inputGate(0), inputGate(1), andGate(0, 1), andGate(0, 2)}, 2},
		{[]impl.Gate{inputGate(0), inputGate(1), andGate(0, 1), andGate(2, 2)}, 2},
		{[]impl.Gate{inputGate(0), inputGate(1), andGate(0, 1), xorGate(2, 0), andGate(3, 1)}, 2},
		{[]impl.Gate{inputGate(0), inputGate(1), andGate(0, 1), xorGate(0, 2), andGate(1, 3)}, 2},
		{[]impl.Gate{inputGate(0), andGate(0, 0), notGate(1), andGate(2, 0)}, 2},
		{[]impl.Gate{inputGate(0), andGate(0, 0), notGate(1), notGate(2), notGate(3), xorGate(4, 4), xorGate(5, 0), xorGate(0, 6), andGate(0, 7)}, 2},
		// The deepest wire is not the last one.
		{[]impl.Gate{inputGate(0), andGate(0, 0), andGate(1, 1), andGate(2, 2), notGate(0)}, 3},
		{[]impl.Gate{inputGate(0), andGate(0, 0), andGate(1, 1), andGate(2, 2), inputGate(1)}, 3},
		{[]impl.Gate{inputGate(0), andGate(0, 0), andGate(1, 1), andGate(2, 2), andGate(0, 0), andGate(4, 4)}, 3},
		// One operand is deeper than the other.
		{[]impl.Gate{inputGate(0), andGate(0, 0), andGate(1, 0), andGate(2, 0), andGate(0, 0), andGate(3, 4)}, 4},
		{[]impl.Gate{inputGate(0), andGate(0, 0), andGate(1, 0), andGate(2, 0), andGate(0, 0), andGate(4, 3)}, 4},
		{[]impl.Gate{inputGate(0), andGate(0, 0), andGate(1, 0), andGate(2, 0), andGate(0, 0), xorGate(4, 3)}, 3},
		{[]impl.Gate{inputGate(0), andGate(0, 0), andGate(0, 0), xorGate(1, 2), xorGate(2, 1), andGate(3, 4)}, 2},
	}
	for _, c := range cases {
		checkDepth(t, circuitOf(c.gates...), c.want)
		checkDepth(t, impl.Circuit{Gates: c.gates, Outs: countsFrom(0, len(c.gates)-1)}, c.want)
		if path, level := deepestPath(circuitOf(c.gates...)), deepestLevel(circuitOf(c.gates...)); path != c.want || level != c.want {
			t.Errorf("the definition has %d or %d for %v; want %d", path, level, c.gates, c.want)
		}
	}
}

// Outputs do not change the depth: the deepest wire need not be one.
func TestAndDepthOfOutputs(t *testing.T) {
	gates := []impl.Gate{inputGate(0), andGate(0, 0), andGate(1, 0), andGate(2, 0), notGate(1), constGate(1)}
	for _, outs := range [][]int{nil, {0}, {1}, {2}, {3}, {4}, {5}, {0, 1, 2}, {5, 4, 5}, {3, 3}, countsFrom(0, 5), make([]int, 7000)} {
		checkDepth(t, impl.Circuit{Gates: gates, Outs: outs}, 3)
	}
	for seed := range 300 {
		c := madeCircuit(seed, 60)
		want := deepestLevel(c)
		checkDepth(t, c, want)
		checkDepth(t, circuitOf(c.Gates...), want)
		for wire := range c.Gates {
			checkDepth(t, impl.Circuit{Gates: c.Gates, Outs: []int{wire}}, want)
		}
	}
}

// chainCircuit returns a chain of GtAnd gates with GtXor and GtNot gates between
// them, where the wire of the chain is operand A or B in turn.
func chainCircuit(ands int, between int) impl.Circuit {
	c := circuitOf(inputGate(0), inputGate(1))
	wire := 0
	for step := range ands {
		for further := range between {
			switch (step + further) % 3 {
			case 0:
				c.Gates = append(c.Gates, notGate(wire))
			case 1:
				c.Gates = append(c.Gates, xorGate(wire, 1))
			case 2:
				c.Gates = append(c.Gates, xorGate(1, wire))
			}
			wire = len(c.Gates) - 1
		}
		if step%2 == 0 {
			c.Gates = append(c.Gates, andGate(wire, 1))
		} else {
			c.Gates = append(c.Gates, andGate(0, wire))
		}
		wire = len(c.Gates) - 1
	}
	return c
}

func TestAndDepthOfChains(t *testing.T) {
	for ands := range 100 {
		for between := range 8 {
			c := chainCircuit(ands, between)
			checkDepth(t, c, ands)
			// Gates behind the chain that are not deep.
			c.Gates = append(c.Gates, notGate(0), xorGate(0, 1), inputGate(3))
			checkDepth(t, c, ands)
			c.Gates = append(c.Gates, xorGate(len(c.Gates)-1, len(c.Gates)-4))
			checkDepth(t, c, ands)
			c.Gates = append(c.Gates, andGate(len(c.Gates)-1, 0))
			checkDepth(t, c, ands+1)
		}
	}
	for _, ands := range []int{255, 256, 257, 1000, maxGates - 2} {
		checkDepth(t, chainCircuit(ands, 0), ands)
	}
	checkDepth(t, chainCircuit(2999, 1), 2999)
	checkDepth(t, chainCircuit(maxGates-1, 0), -1)
	// The deepest circuit: only its first gate is none of the chain.
	gates := []impl.Gate{inputGate(9)}
	for at := 1; at < maxGates; at++ {
		gates = append(gates, andGate(at-1, at-1))
	}
	checkDepth(t, circuitOf(gates...), maxGates-1)
	checkDepth(t, circuitOf(append(gates, constGate(0))...), -1)
}

// treeCircuit returns a tree of gates over 2 to the power of levels inputs. The
// letter at the end of kinds is that of the last level: a for GtAnd, x for
// GtXor, and n for a GtXor gate with a GtNot gate behind it.
func treeCircuit(kinds string) impl.Circuit {
	c, wires := impl.Circuit{}, []int{}
	for bit := range power(2, len(kinds)) {
		c.Gates = append(c.Gates, inputGate(bit%maxBits))
		wires = append(wires, bit)
	}
	for _, kind := range kinds {
		next := []int{}
		for i := 0; i < len(wires); i += 2 {
			switch kind {
			case 'a':
				c.Gates = append(c.Gates, andGate(wires[i], wires[i+1]))
			case 'x':
				c.Gates = append(c.Gates, xorGate(wires[i], wires[i+1]))
			case 'n':
				c.Gates = append(c.Gates, xorGate(wires[i], wires[i+1]))
				c.Gates = append(c.Gates, notGate(len(c.Gates)-1))
			}
			next = append(next, len(c.Gates)-1)
		}
		wires = next
	}
	return c
}

func TestAndDepthOfTrees(t *testing.T) {
	for levels := range 6 {
		for number := range power(3, levels) {
			kinds, ands := "", 0
			for _, digit := range digitsOf(3, levels, number) {
				kinds += string("axn"[digit])
				if digit == 0 {
					ands++
				}
			}
			checkDepth(t, treeCircuit(kinds), ands)
		}
	}
	checkDepth(t, treeCircuit("aaaaaaaaaaa"), 11)
	checkDepth(t, treeCircuit("axaxnxanaxa"), 5)
}

// All circuits of up to four gates, by all their paths.
func TestAndDepthOfAllSmallCircuits(t *testing.T) {
	for count := range 5 {
		smallCircuits(count, func(c impl.Circuit) {
			checkDepth(t, c, deepestPath(c))
		})
	}
}

func TestAndDepthOfMadeCircuits(t *testing.T) {
	for seed := range 1000 {
		small := madeCircuit(seed, 12)
		checkDepth(t, small, deepestPath(small))
	}
	shallow, deep := 0, 0
	for seed := range 1000 {
		c := madeCircuit(seed, 200)
		want := deepestLevel(c)
		checkDepth(t, c, want)
		if want < 10 {
			shallow++
		} else {
			deep++
		}
	}
	if shallow < 100 || deep < 100 {
		t.Errorf("%d circuits of a small depth and %d of a large one were tried", shallow, deep)
	}
}

func TestAndDepthOfInvalidCircuits(t *testing.T) {
	for _, c := range wrongCircuits() {
		checkDepth(t, c, -1)
	}
	checkDepth(t, circuitOf(andGate(0, 0)), -1)
	checkDepth(t, circuitOf(inputGate(0), andGate(0, 1)), -1)
	checkDepth(t, circuitOf(inputGate(0), andGate(0, 0), inputGate(80)), -1)
	checkDepth(t, impl.Circuit{Gates: []impl.Gate{inputGate(0), andGate(0, 0)}, Outs: []int{2}}, -1)
	checkDepth(t, impl.Circuit{Gates: []impl.Gate{inputGate(0), andGate(0, 0)}, Outs: []int{1}}, 1)
	checkDepth(t, largeCircuit(maxGates+1), -1)
}

// guardedCircuit returns a circuit whose lists are parts of larger lists, which
// have other elements before and behind them, and input bits that are part of the
// same list as the outputs.
func guardedCircuit(c impl.Circuit) (gates []impl.Gate, numbers []int, guarded impl.Circuit, bits []int) {
	gates = slices.Concat([]impl.Gate{{Kind: 9}}, c.Gates, []impl.Gate{{Kind: 8, A: -1}, {Kind: 7}, constGate(2)})
	numbers = slices.Concat([]int{77}, c.Outs, []int{-5, 88, 99}, madeBits(3), []int{66, 55, 44})
	guarded = impl.Circuit{Gates: gates[1 : 1+len(c.Gates)], Outs: numbers[1 : 1+len(c.Outs)]}
	return gates, numbers, guarded, numbers[len(c.Outs)+4 : len(c.Outs)+4+maxBits]
}

// No function writes into its lists or behind them, and what is behind them does
// not count.
func TestCircuitFunctionsLeaveTheLists(t *testing.T) {
	for _, c := range append(evalCircuits(), wrongCircuits()...) {
		gates, numbers, guarded, bits := guardedCircuit(c)
		gatesGiven, numbersGiven := slices.Clone(gates), slices.Clone(numbers)
		checkCircuit(t, guarded, validCircuit(c))
		checkGateCounts(t, guarded)
		if validCircuit(c) {
			checkSatisfied(t, guarded, bits)
			checkDepth(t, guarded, deepestLevel(c))
		} else {
			checkNoEval(t, guarded, bits)
			checkDepth(t, guarded, -1)
		}
		checkNoEval(t, guarded, bits[:maxBits-1])
		checkNoEval(t, guarded, bits[:maxBits+1])
		if !slices.Equal(gates, gatesGiven) || !slices.Equal(numbers, numbersGiven) {
			t.Errorf("the lists of %s were changed to %v and %v", briefCircuit(c), gates, numbers)
		}
	}
}

// What is returned is new memory: neither that of the circuit or the bits, nor
// that of another result.
func TestCircuitResultsAreNew(t *testing.T) {
	for _, c := range evalCircuits() {
		c.Outs = append(c.Outs, countsFrom(0, len(c.Gates)-1)...)
		gates, numbers, guarded, bits := guardedCircuit(c)
		gatesGiven, numbersGiven, right := slices.Clone(gates), slices.Clone(numbers), slices.Clone(bits)
		wires, again := impl.EvalWires(guarded, bits), impl.EvalWires(guarded, bits)
		outs, _ := impl.EvalCircuit(guarded, bits)
		outsAgain, _ := impl.EvalCircuit(guarded, bits)
		wiresGiven, outsGiven := slices.Clone(again), slices.Clone(outsAgain)
		overwrite(wires)
		overwrite(outs)
		if !slices.Equal(gates, gatesGiven) || !slices.Equal(numbers, numbersGiven) {
			t.Errorf("the results for %s share memory with %v or %v", briefCircuit(c), gates, numbers)
		}
		overwrite(numbers)
		if !slices.Equal(again, wiresGiven) || !slices.Equal(outsAgain, outsGiven) {
			t.Errorf("the results for %s share memory: %v, %v", briefCircuit(c), again, outsAgain)
		}
		checkSatisfied(t, c, right)
	}
	// Rejected arguments have no result that could be written to.
	for _, c := range wrongCircuits() {
		_, numbers, guarded, bits := guardedCircuit(c)
		given := slices.Clone(numbers)
		overwrite(impl.EvalWires(guarded, bits))
		outs, _ := impl.EvalCircuit(guarded, bits)
		overwrite(outs)
		if !slices.Equal(numbers, given) {
			t.Errorf("the results for %s share memory with %v", briefCircuit(c), numbers)
		}
	}
}

// The outputs and the bits can be the same list, as far as both are valid.
func TestEvalOfSharedLists(t *testing.T) {
	shared := madeBits(4)
	checkSatisfied(t, impl.Circuit{Gates: []impl.Gate{inputGate(0), notGate(0)}, Outs: shared}, shared)
	checkSatisfied(t, impl.Circuit{Gates: []impl.Gate{inputGate(5), inputGate(6)}, Outs: shared[:7]}, shared)
}

// The same arguments have the same results again, whatever was called between.
func TestCircuitAgain(t *testing.T) {
	mixed, bits := mixedCircuit(), bitsAt(0)
	for range 20 {
		for _, c := range wrongCircuits()[:60] {
			impl.EvalWires(c, bits)
			impl.AndDepth(c)
		}
		for _, c := range evalCircuits() {
			impl.EvalWires(c, madeBits(2))
			impl.EvalCircuit(c, nil)
			impl.AndDepth(c)
			impl.CountGates(c, impl.GtAnd)
		}
		checkCircuit(t, mixed, true)
		checkEval(t, mixed, bits, []int{1, 0, 1, 1, 1, 0, 0, 0, 0, 1, 0})
		checkDepth(t, mixed, 2)
		checkGateCount(t, mixed, impl.GtInput, 3)
		checkGate(t, xorGate(5, 0), 5, false)
	}
}
