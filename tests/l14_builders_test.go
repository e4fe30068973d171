package tests

import (
	"fmt"
	"math"
	"slices"
	"strings"
	"testing"

	"loop.example/g00979/impl"
)

const (
	wordWires = 4
	// maxBuiltOn is the greatest number of gates to which others are appended.
	maxBuiltOn = maxGates - 100
)

// operands are the wires that a builder is given. Only WordMux uses s.
type operands struct {
	s int
	a []int
	b []int
}

func (x operands) clone() operands { return operands{x.s, slices.Clone(x.a), slices.Clone(x.b)} }

func (x operands) equal(y operands) bool {
	return x.s == y.s && slices.Equal(x.a, y.a) && slices.Equal(x.b, y.b)
}

// builder is a function of the chapter, with what the document says of it.
type builder struct {
	name  string
	build func(c impl.Circuit, x operands) (impl.Circuit, []int)
	// steps are the gates in their order. The bits of the words are a0 to a3 and
	// b0 to b3, and each step gives a name to the wire of its gate.
	steps   string
	results string
	// value is the number that the resulting wires have.
	value    func(s int, a int, b int) int
	mostAnds int
}

const addSteps = `
	c0 = 0
	x0 = a0 ^ c0, y0 = b0 ^ c0, z0 = a0 ^ y0, w0 = x0 & y0, c1 = w0 ^ c0
	x1 = a1 ^ c1, y1 = b1 ^ c1, z1 = a1 ^ y1, w1 = x1 & y1, c2 = w1 ^ c1
	x2 = a2 ^ c2, y2 = b2 ^ c2, z2 = a2 ^ y2, w2 = x2 & y2, c3 = w2 ^ c2
	u = a3 ^ b3, z3 = u ^ c3`

const subSteps = `
	n0 = ! b0, n1 = ! b1, n2 = ! b2, n3 = ! b3
	c0 = 1
	x0 = a0 ^ c0, y0 = n0 ^ c0, z0 = a0 ^ y0, w0 = x0 & y0, c1 = w0 ^ c0
	x1 = a1 ^ c1, y1 = n1 ^ c1, z1 = a1 ^ y1, w1 = x1 & y1, c2 = w1 ^ c1
	x2 = a2 ^ c2, y2 = n2 ^ c2, z2 = a2 ^ y2, w2 = x2 & y2, c3 = w2 ^ c2
	u = a3 ^ n3, z3 = u ^ c3`

const lessSteps = `
	n0 = ! b0, n1 = ! b1, n2 = ! b2, n3 = ! b3
	c0 = 1
	x0 = a0 ^ c0, y0 = n0 ^ c0, z0 = a0 ^ y0, w0 = x0 & y0, c1 = w0 ^ c0
	x1 = a1 ^ c1, y1 = n1 ^ c1, z1 = a1 ^ y1, w1 = x1 & y1, c2 = w1 ^ c1
	x2 = a2 ^ c2, y2 = n2 ^ c2, z2 = a2 ^ y2, w2 = x2 & y2, c3 = w2 ^ c2
	x3 = a3 ^ c3, y3 = n3 ^ c3, z3 = a3 ^ y3, w3 = x3 & y3, c4 = w3 ^ c3
	less = ! c4`

const equalSteps = `
	x0 = a0 ^ b0, n0 = ! x0
	x1 = a1 ^ b1, n1 = ! x1
	x2 = a2 ^ b2, n2 = ! x2
	x3 = a3 ^ b3, n3 = ! x3
	e1 = n0 & n1, e2 = e1 & n2, e3 = e2 & n3`

const muxSteps = `
	x0 = a0 ^ b0, y0 = s & x0, z0 = y0 ^ b0
	x1 = a1 ^ b1, y1 = s & x1, z1 = y1 ^ b1
	x2 = a2 ^ b2, y2 = s & x2, z2 = y2 ^ b2
	x3 = a3 ^ b3, y3 = s & x3, z3 = y3 ^ b3`

// The name of a product begins with p, the bit of b, and that of a. The sums are
// called q, r and t, as far as they are not the result, with their bit.
const mulSteps = `
	p00 = b0 & a0, p01 = b0 & a1, p02 = b0 & a2, p03 = b0 & a3

	p10 = b1 & a0, p11 = b1 & a1, p12 = b1 & a2
	c1 = 0
	x1 = p01 ^ c1, y1 = p10 ^ c1, q1 = p01 ^ y1, w1 = x1 & y1, c2 = w1 ^ c1
	x2 = p02 ^ c2, y2 = p11 ^ c2, q2 = p02 ^ y2, w2 = x2 & y2, c3 = w2 ^ c2
	u = p03 ^ p12, q3 = u ^ c3

	p20 = b2 & a0, p21 = b2 & a1
	d2 = 0
	x2 = q2 ^ d2, y2 = p20 ^ d2, r2 = q2 ^ y2, w2 = x2 & y2, d3 = w2 ^ d2
	u = q3 ^ p21, r3 = u ^ d3

	p30 = b3 & a0
	e3 = 0
	u = r3 ^ p30, t3 = u ^ e3`

// wireList returns the result of WordLess and WordEqual as a list, which has no
// elements for -1.
func wireList(c impl.Circuit, wire int) (impl.Circuit, []int) {
	if wire == -1 {
		return c, nil
	}
	return c, []int{wire}
}

func buildAdd(c impl.Circuit, x operands) (impl.Circuit, []int) { return impl.WordAdd(c, x.a, x.b) }

func buildSub(c impl.Circuit, x operands) (impl.Circuit, []int) { return impl.WordSub(c, x.a, x.b) }

func buildMul(c impl.Circuit, x operands) (impl.Circuit, []int) { return impl.WordMul(c, x.a, x.b) }

func buildMux(c impl.Circuit, x operands) (impl.Circuit, []int) {
	return impl.WordMux(c, x.s, x.a, x.b)
}

func buildLess(c impl.Circuit, x operands) (impl.Circuit, []int) {
	return wireList(impl.WordLess(c, x.a, x.b))
}

func buildEqual(c impl.Circuit, x operands) (impl.Circuit, []int) {
	return wireList(impl.WordEqual(c, x.a, x.b))
}

func addedTo(_ int, a int, b int) int { return resultOf(impl.OpAdd, a, b) }

func takenFrom(_ int, a int, b int) int { return resultOf(impl.OpSub, a, b) }

func timesOf(_ int, a int, b int) int { return resultOf(impl.OpMul, a, b) }

func lessThan(_ int, a int, b int) int { return resultOf(impl.OpLess, a, b) }

func equalTo(_ int, a int, b int) int { return resultOf(impl.OpEqual, a, b) }

func chosenBy(s int, a int, b int) int { return []int{b, a}[s] }

// wordBuilders are those that are given words.
func wordBuilders() []builder {
	return []builder{
		{"WordAdd", buildAdd, addSteps, "z0 z1 z2 z3", addedTo, 3},
		{"WordSub", buildSub, subSteps, "z0 z1 z2 z3", takenFrom, 3},
		{"WordLess", buildLess, lessSteps, "less", lessThan, 4},
		{"WordEqual", buildEqual, equalSteps, "e3", equalTo, 3},
		{"WordMux", buildMux, muxSteps, "z0 z1 z2 z3", chosenBy, 4},
		{"WordMul", buildMul, mulSteps, "p00 q1 r2 t3", timesOf, 16},
	}
}

func isMux(f builder) bool { return f.name == "WordMux" }

// constBuilder is WordConst with one number, which may be none of a word.
func constBuilder(n int) builder {
	return builder{
		name:    fmt.Sprintf("WordConst of %d,", n),
		build:   func(c impl.Circuit, _ operands) (impl.Circuit, []int) { return impl.WordConst(c, n) },
		steps:   fmt.Sprintf("k0 = %d, k1 = %d, k2 = %d, k3 = %d", n&1, n>>1&1, n>>2&1, n>>3&1),
		results: "k0 k1 k2 k3",
		value:   func(int, int, int) int { return n },
	}
}

func allBuilders() []builder {
	return append(wordBuilders(), constBuilder(0), constBuilder(6), constBuilder(15))
}

// gateOf returns the gate of the right side of a step.
func gateOf(sides []string, wireOf func(name string) int) impl.Gate {
	switch {
	case len(sides) == 1:
		return constGate(strings.Index("01", sides[0]))
	case len(sides) == 2:
		return notGate(wireOf(sides[1]))
	case sides[1] == "^":
		return xorGate(wireOf(sides[0]), wireOf(sides[2]))
	}
	return andGate(wireOf(sides[0]), wireOf(sides[2]))
}

// after is the definition of what a builder returns: it follows its steps.
func (f builder) after(c impl.Circuit, x operands) (impl.Circuit, []int) {
	wires := map[string]int{"s": x.s}
	for i := range min(len(x.a), len(x.b)) {
		wires[fmt.Sprint("a", i)], wires[fmt.Sprint("b", i)] = x.a[i], x.b[i]
	}
	wireOf := func(name string) int {
		wire, known := wires[name]
		if !known {
			panic("no wire " + name + " in the steps of " + f.name)
		}
		return wire
	}
	built := cloneCircuit(c)
	for _, step := range strings.FieldsFunc(f.steps, func(r rune) bool { return r == ',' || r == '\n' }) {
		if sides := strings.Fields(step); len(sides) > 0 {
			g := gateOf(sides[2:], wireOf)
			wires[sides[0]] = len(built.Gates)
			built.Gates = append(built.Gates, g)
		}
	}
	results := []int{}
	for _, name := range strings.Fields(f.results) {
		results = append(results, wireOf(name))
	}
	return built, results
}

// checkBuiltTo checks the circuit and the wires that a builder returns, and that
// its arguments stay as they are.
func checkBuiltTo(t *testing.T, f builder, c impl.Circuit, x operands, want impl.Circuit, wires []int) {
	t.Helper()
	before, given := cloneCircuit(c), x.clone()
	got, gotWires := f.build(c, x)
	if !sameCircuit(got, want) || !slices.Equal(gotWires, wires) {
		behind := got.Gates[min(len(before.Gates), len(got.Gates)):]
		t.Errorf("%s for %v on %s = %s, %v with the new gates %.900s; want %.200s", f.name, given, briefCircuit(before), briefCircuit(got), gotWires, fmt.Sprint(behind), fmt.Sprint(wires))
	}
	if !sameCircuit(c, before) || !x.equal(given) {
		t.Errorf("%s changed %s and %v to %s and %v", f.name, briefCircuit(before), given, briefCircuit(c), x)
	}
}

// checkBuilt checks that a builder appends exactly the gates of its steps, and
// returns the circuit and the wires.
func checkBuilt(t *testing.T, f builder, c impl.Circuit, x operands) (impl.Circuit, []int) {
	t.Helper()
	want, wires := f.after(c, x)
	checkBuiltTo(t, f, c, x, want, wires)
	got, gotWires := f.build(c, x)
	if ands := impl.CountGates(got, impl.GtAnd) - impl.CountGates(c, impl.GtAnd); ands > f.mostAnds {
		t.Errorf("%s uses %d GtAnd gates", f.name, ands)
	}
	if !impl.CircuitOk(got) {
		t.Errorf("%s for %v made %s, which is not valid", f.name, x, briefCircuit(got))
	}
	return got, gotWires
}

// checkNotBuilt checks that a builder returns its circuit, and no wires.
func checkNotBuilt(t *testing.T, f builder, c impl.Circuit, x operands) {
	t.Helper()
	checkBuiltTo(t, f, c, x, cloneCircuit(c), nil)
}

// numberOn returns the number whose bits are these values, the first one least.
func numberOn(bits []int) int {
	number := 0
	for i, bit := range bits {
		number += bit << i
	}
	return number
}

// checkNumber checks the number that the wires of a circuit have.
func checkNumber(t *testing.T, f builder, c impl.Circuit, wires []int, bits []int, want int) {
	t.Helper()
	values, ok := impl.EvalCircuit(impl.Circuit{Gates: c.Gates, Outs: wires}, bits)
	if !ok || numberOn(values) != want {
		t.Errorf("%s: the wires %v of %s have the values %v, %v with the bits %v; want %d", f.name, wires, briefCircuit(c), values, ok, bits, want)
	}
}

// checkComputed builds once, and checks the number that the result has for each
// of the input bits.
func checkComputed(t *testing.T, f builder, c impl.Circuit, x operands, bitLists [][]int) {
	t.Helper()
	built, wires := checkBuilt(t, f, c, x)
	for _, bits := range bitLists {
		values := impl.EvalWires(c, bits)
		if len(values) != len(c.Gates) {
			t.Fatalf("%s has no values", briefCircuit(c))
		}
		want := f.value(values[x.s], numberOn(valuesAt(values, x.a)), numberOn(valuesAt(values, x.b)))
		checkNumber(t, f, built, wires, bits, want)
	}
}

// bitsOf returns so many bits of a number, the least significant one first.
func bitsOf(number int, count int) []int {
	bits := digitsOf(2, count, number)
	slices.Reverse(bits)
	return bits
}

// inputsOf returns a circuit of inputs, one for each of these bits.
func inputsOf(bits ...int) impl.Circuit {
	c := impl.Circuit{}
	for _, bit := range bits {
		c.Gates = append(c.Gates, inputGate(bit))
	}
	return c
}

// allValuesOf returns input bits with all values at these places. The other bits
// are 0, or 1, in turn.
func allValuesOf(places ...int) [][]int {
	lists := [][]int{}
	for number := range power(2, len(places)) {
		bits := slices.Repeat([]int{number % 2}, maxBits)
		for i, bit := range bitsOf(number, len(places)) {
			bits[places[i]] = bit
		}
		lists = append(lists, bits)
	}
	return lists
}

// nine are the operands in a circuit with a wire for each of their bits.
func nine() operands { return operands{8, []int{0, 1, 2, 3}, []int{4, 5, 6, 7}} }

func TestStepsOfBuilders(t *testing.T) {
	c := inputsOf(0, 1, 2, 3, 4, 5, 6, 7, 8)
	builders := wordBuilders()
	added := slices.Concat(c.Gates, []impl.Gate{
		constGate(0),
		xorGate(0, 9), xorGate(4, 9), xorGate(0, 11), andGate(10, 11), xorGate(13, 9),
		xorGate(1, 14), xorGate(5, 14), xorGate(1, 16), andGate(15, 16), xorGate(18, 14),
		xorGate(2, 19), xorGate(6, 19), xorGate(2, 21), andGate(20, 21), xorGate(23, 19),
		xorGate(3, 7), xorGate(25, 24),
	})
	checkBuiltTo(t, builders[0], c, nine(), circuitOf(added...), []int{12, 17, 22, 26})
	equal := slices.Concat(c.Gates, []impl.Gate{
		xorGate(0, 4), notGate(9), xorGate(1, 5), notGate(11), xorGate(2, 6), notGate(13), xorGate(3, 7), notGate(15),
		andGate(10, 12), andGate(17, 14), andGate(18, 16),
	})
	checkBuiltTo(t, builders[3], c, nine(), circuitOf(equal...), []int{19})
	chosen := slices.Concat(c.Gates, []impl.Gate{
		xorGate(0, 4), andGate(8, 9), xorGate(10, 4),
		xorGate(1, 5), andGate(8, 12), xorGate(13, 5),
		xorGate(2, 6), andGate(8, 15), xorGate(16, 6),
		xorGate(3, 7), andGate(8, 18), xorGate(19, 7),
	})
	checkBuiltTo(t, builders[4], c, nine(), circuitOf(chosen...), []int{11, 14, 17, 20})
	number := []impl.Gate{constGate(0), constGate(1), constGate(1), constGate(0)}
	checkBuiltTo(t, constBuilder(6), impl.Circuit{}, operands{}, circuitOf(number...), []int{0, 1, 2, 3})
	checkBuiltTo(t, constBuilder(6), c, operands{}, circuitOf(slices.Concat(c.Gates, number)...), []int{9, 10, 11, 12})
	// The gates, and the GtAnd gates among them.
	counts := [][2]int{{18, 3}, {22, 3}, {26, 4}, {11, 3}, {12, 4}, {34, 13}}
	for i, f := range builders {
		after, _ := checkBuilt(t, f, c, nine())
		if gates, ands := len(after.Gates)-9, impl.CountGates(after, impl.GtAnd); gates != counts[i][0] || ands != counts[i][1] {
			t.Errorf("%s appended %d gates, of which %d are GtAnd gates", f.name, gates, ands)
		}
	}
}

// All pairs of words, with their bits as input bits at several places, behind
// other gates, and with outputs.
func TestBuildersOnInputs(t *testing.T) {
	arrangements := [][]int{countsFrom(0, 8), countsFrom(71, 79), {8, 7, 6, 5, 4, 3, 2, 1, 0}, {79, 0, 40, 3, 64, 63, 16, 17, 9}}
	for _, places := range arrangements {
		for _, f := range wordBuilders() {
			c := inputsOf(places...)
			checkComputed(t, f, c, nine(), allValuesOf(places...))
			c.Outs = []int{8, 0, 3, 3}
			checkComputed(t, f, c, nine(), allValuesOf(places...))
			// The words and the wire of WordMux in another order.
			checkComputed(t, f, c, operands{0, []int{8, 6, 4, 2}, []int{7, 5, 3, 1}}, allValuesOf(places...))
			behind := impl.Circuit{Gates: slices.Concat(mixedCircuit().Gates, c.Gates), Outs: mixedCircuit().Outs}
			x := operands{19, []int{11, 12, 13, 14}, []int{15, 16, 17, 18}}
			checkComputed(t, f, behind, x, allValuesOf(places...))
		}
	}
}

// All pairs of words as GtConst gates.
func TestBuildersOnConstants(t *testing.T) {
	for number := range power(2, 9) {
		c := impl.Circuit{Outs: []int{7}}
		for _, bit := range bitsOf(number, 9) {
			c.Gates = append(c.Gates, constGate(bit))
		}
		for _, f := range wordBuilders() {
			checkComputed(t, f, c, nine(), [][]int{bitsAt(), madeBits(number)})
		}
	}
}

// All pairs of words that WordConst has made, and the wires of one number.
func TestBuildersOnWordConst(t *testing.T) {
	for a := range 16 {
		for b := range 16 {
			c, first := impl.WordConst(impl.Circuit{}, a)
			c, second := impl.WordConst(c, b)
			for _, f := range wordBuilders() {
				for s, wire := range []int{first[0], second[3]} {
					x := operands{wire, first, second}
					built, wires := checkBuilt(t, f, c, x)
					checkNumber(t, f, built, wires, bitsAt(), f.value([]int{a % 2, b / 8}[s], a, b))
				}
			}
		}
	}
}

// Both words are the same wires, and the wire of WordMux is one of them.
func TestBuildersOnOneWord(t *testing.T) {
	c := inputsOf(20, 21, 22, 23, 24)
	for _, word := range [][]int{{0, 1, 2, 3}, {3, 2, 1, 0}, {4, 2, 3, 1}} {
		for _, f := range wordBuilders() {
			for s := range 5 {
				checkComputed(t, f, c, operands{s, word, slices.Clone(word)}, allValuesOf(20, 21, 22, 23, 24))
				// They can also be the same list.
				checkComputed(t, f, c, operands{s, word, word}, allValuesOf(20, 21, 22, 23, 24))
			}
		}
	}
	for _, bits := range allValuesOf(20, 21, 22, 23, 24) {
		word := []int{0, 1, 2, 3}
		a := numberOn(bits[20:24])
		for i, want := range []int{2 * a % 16, 0, 0, 1, a, a * a % 16} {
			f := wordBuilders()[i]
			built, wires := f.build(c, operands{4, word, word})
			checkNumber(t, f, built, wires, bits, want)
		}
	}
}

// All words of three wires, which name at least one of them several times.
func TestBuildersOnRepeatedWires(t *testing.T) {
	c := inputsOf(5, 66, 7)
	values := allValuesOf(5, 66, 7)
	words := [][]int{}
	for number := range power(3, wordWires) {
		words = append(words, digitsOf(3, wordWires, number))
	}
	for i, a := range words {
		for j, b := range words {
			for _, f := range wordBuilders() {
				checkComputed(t, f, c, operands{(i + j) % 3, a, b}, values)
			}
		}
	}
	one := circuitOf(inputGate(9))
	word := []int{0, 0, 0, 0}
	for _, f := range wordBuilders() {
		checkComputed(t, f, one, operands{0, word, word}, allValuesOf(9))
	}
}

// madeOperands returns words of a circuit that only the seed determines.
func madeOperands(seed int, count int) operands {
	wires := []int{}
	for place := range 2*wordWires + 1 {
		wires = append(wires, int(mixWord(uint32(seed*9+place)+3)>>8)%count)
	}
	return operands{wires[8], wires[:4:4], wires[4:8:8]}
}

// Circuits of gates of all kinds with outputs, and words of any of their wires.
func TestBuildersOnMadeCircuits(t *testing.T) {
	for seed := range 600 {
		c := madeCircuit(seed, 120)
		for i, f := range allBuilders() {
			if len(c.Gates) > 0 {
				checkComputed(t, f, c, madeOperands(seed*10+i, len(c.Gates)), append(bitSets(), madeBits(seed)))
			}
		}
	}
}

// builtWord is a word of a circuit, with the numbers that it has for each of
// some lists of input bits.
type builtWord struct {
	wires   []int
	numbers []int
}

// builtOnInputs returns words whose bits are the input bits at these places.
func builtOnInputs(places []int, bitLists [][]int) []builtWord {
	words := []builtWord{}
	for i := 0; i < len(places); i += wordWires {
		w := builtWord{wires: countsFrom(i, i+wordWires-1)}
		for _, bits := range bitLists {
			w.numbers = append(w.numbers, numberOn(valuesAt(bits, places[i:i+wordWires])))
		}
		words = append(words, w)
	}
	return words
}

// Each builder works on what the ones before it have built, until there is no
// room: all results have their numbers still in the circuit of all of them.
func TestBuildersOneAfterTheOther(t *testing.T) {
	for seed := range 12 {
		places := countsFrom(seed, seed+11)
		bitLists := append(bitSets(), madeBits(seed))
		c, zeros := impl.WordConst(inputsOf(places...), 0)
		c.Outs = []int{seed % 12, 3}
		words := builtOnInputs(places, bitLists)
		for step := 0; len(c.Gates) <= maxBuiltOn; step++ {
			chosen := madeOperands(seed*1000+step, len(words)).a
			s, a, b := words[chosen[0]], words[chosen[1]], words[chosen[2]]
			f := append(wordBuilders(), constBuilder(step%16))[(step+chosen[3])%7]
			built, wires := checkBuilt(t, f, c, operands{s.wires[0], a.wires, b.wires})
			// A single wire becomes a word with zeros.
			w := builtWord{wires: append(wires, zeros[len(wires):]...)}
			for i := range bitLists {
				w.numbers = append(w.numbers, f.value(s.numbers[i]%2, a.numbers[i], b.numbers[i]))
			}
			c, words = built, append(words, w)
			if t.Failed() {
				return
			}
		}
		checkWords(t, c, words, bitLists)
		for _, f := range allBuilders() {
			checkNotBuilt(t, f, c, operands{0, words[0].wires, words[1].wires})
		}
	}
}

func checkWords(t *testing.T, c impl.Circuit, words []builtWord, bitLists [][]int) {
	t.Helper()
	all := impl.Circuit{Gates: c.Gates}
	for _, w := range words {
		all.Outs = append(all.Outs, w.wires...)
	}
	for i, bits := range bitLists {
		values, ok := impl.EvalCircuit(all, bits)
		if !ok || len(values) != wordWires*len(words) {
			t.Fatalf("%s has the values %.200s, %v", briefCircuit(all), fmt.Sprint(values), ok)
		}
		for j, w := range words {
			if got := numberOn(values[wordWires*j : wordWires*(j+1)]); got != w.numbers[i] {
				t.Errorf("word %d of %d is %d with bits %d; want %d", j, len(words), got, i, w.numbers[i])
			}
		}
	}
}

// tableOf returns the values of each wire, for all values of the nine inputs.
func tableOf(c impl.Circuit) []string {
	tables := make([]string, len(c.Gates))
	for _, bits := range allValuesOf(countsFrom(0, 8)...) {
		for wire, value := range impl.EvalWires(c, bits) {
			tables[wire] += fmt.Sprint(value)
		}
	}
	return tables
}

// carryTable returns the table of the carry out of the last bit of a and b, or of
// a, the negation of b, and 1, as it is or negated.
func carryTable(subtract bool, negated bool) string {
	table := ""
	for number := range power(2, 9) {
		a, b := number%16, number/16%16
		if subtract {
			b = 16 - b
		}
		table += fmt.Sprint(map[bool]int{true: 1}[(a+b >= 16) != negated])
	}
	return table
}

// No gate of WordAdd and WordSub is there for the carry out of the last bit: none
// computes it, and the last bits are operands of GtXor and GtNot gates only.
func TestNoLastCarry(t *testing.T) {
	c := inputsOf(0, 1, 2, 3, 4, 5, 6, 7, 8)
	for i, f := range wordBuilders()[:2] {
		built, wires := checkBuilt(t, f, c, nine())
		for wire, table := range tableOf(built) {
			for _, negated := range []bool{false, true} {
				if table == carryTable(i == 1, negated) {
					t.Errorf("wire %d of %s is the last carry", wire, f.name)
				}
			}
		}
		if wires[3] != len(built.Gates)-1 {
			t.Errorf("%s appends gates behind the last bit, which is wire %d", f.name, wires[3])
		}
		for at, g := range built.Gates {
			if g.Kind == impl.GtAnd && (uses(g, 3) || uses(g, 7)) {
				t.Errorf("%s has the gate %v of a last bit at %d", f.name, g, at)
			}
		}
	}
}

// WordLess is the negation of the last one of four carries, each of which and
// the sums are those of a, the negation of b, and 1.
func TestLessIsTheLastCarry(t *testing.T) {
	c := inputsOf(0, 1, 2, 3, 4, 5, 6, 7, 8)
	built, wires := checkBuilt(t, wordBuilders()[2], c, nine())
	tables, less := tableOf(built), len(built.Gates)-1
	if wires[0] != less || built.Gates[less] != notGate(less-1) || tables[less-1] != carryTable(true, false) || tables[less] != carryTable(true, true) {
		t.Errorf("WordLess is wire %v, gate %v of %s", wires, built.Gates[less], briefCircuit(built))
	}
	subtracted, sum := checkBuilt(t, wordBuilders()[1], c, nine())
	sums := tableOf(subtracted)
	for i, wire := range []int{16, 21, 26, 31} {
		if tables[wire] != sums[sum[i]] || built.Gates[wire].Kind != impl.GtXor {
			t.Errorf("wire %d of WordLess is not bit %d of the difference", wire, i)
		}
	}
	for a := range 16 {
		for b := range 16 {
			if got := tables[less][a+16*b : a+16*b+1]; got != fmt.Sprint(resultOf(impl.OpLess, a, b)) {
				t.Errorf("%d < %d is %s", a, b, got)
			}
		}
	}
}

// baseCircuits are valid and can be extended.
func baseCircuits() []impl.Circuit {
	return []impl.Circuit{
		circuitOf(inputGate(3)),
		circuitOf(inputGate(3), constGate(1), xorGate(0, 1), andGate(2, 0)),
		inputsOf(countsFrom(0, 8)...),
		mixedCircuit(),
		{Gates: largeCircuit(100).Gates, Outs: []int{99, 0, 50}},
		{Gates: largeCircuit(maxBuiltOn).Gates, Outs: []int{maxBuiltOn - 1}},
	}
}

// someOperands returns words of a circuit: the first wire, the last one, and any.
func someOperands(count int) []operands {
	last := count - 1
	low, high := slices.Repeat([]int{0}, wordWires), slices.Repeat([]int{last}, wordWires)
	return []operands{{0, low, low}, {last, high, high}, {0, low, high}, {last, high, low}, madeOperands(count, count), madeOperands(count+1, count)}
}

func TestBuildersOnBaseCircuits(t *testing.T) {
	for _, c := range baseCircuits() {
		for _, x := range someOperands(len(c.Gates)) {
			for _, f := range allBuilders() {
				checkComputed(t, f, c, x, bitSets())
			}
		}
	}
}

// The outputs stay, however many there are.
func TestBuildersKeepTheOutputs(t *testing.T) {
	gates := mixedCircuit().Gates
	for _, outs := range [][]int{nil, {}, {0}, {10}, {10, 10, 3}, countsFrom(0, 10), slices.Repeat([]int{7, 0}, 4000)} {
		c := impl.Circuit{Gates: gates, Outs: outs}
		for _, x := range someOperands(len(gates)) {
			for _, f := range allBuilders() {
				after, _ := checkBuilt(t, f, c, x)
				if !slices.Equal(after.Outs, outs) {
					t.Errorf("%s has the outputs %.100s after %s", briefCircuit(after), fmt.Sprint(outs), f.name)
				}
			}
		}
	}
}

func TestWordConst(t *testing.T) {
	for n := range 16 {
		f := constBuilder(n)
		for _, c := range append(baseCircuits(), impl.Circuit{}, circuitOf([]impl.Gate{}...)) {
			built, wires := checkBuilt(t, f, c, operands{})
			if !slices.Equal(wires, countsFrom(len(c.Gates), len(c.Gates)+3)) {
				t.Errorf("%s has the wires %v on %s", f.name, wires, briefCircuit(c))
			}
			for _, bits := range bitSets() {
				checkNumber(t, f, built, wires, bits, n)
			}
		}
	}
}

// Numbers that do not have four bits, also where the low bits are a word.
func TestWordConstOfOtherNumbers(t *testing.T) {
	numbers := slices.Concat(countsFrom(-40, -1), countsFrom(16, 300), notNumbers, []int{65536, 65536 + 5, 1<<32 + 15, -1 << 63, -1<<63 + 7})
	for _, c := range append(baseCircuits(), impl.Circuit{}) {
		for _, n := range numbers {
			checkNotBuilt(t, constBuilder(n), c, operands{})
		}
		checkBuilt(t, constBuilder(0), c, operands{})
		checkBuilt(t, constBuilder(15), c, operands{})
	}
	for _, c := range wrongCircuits() {
		checkNotBuilt(t, constBuilder(-1), c, operands{})
		checkNotBuilt(t, constBuilder(16), c, operands{})
	}
}

// Nothing is appended to a circuit that is not valid.
func TestBuildersOnInvalidCircuits(t *testing.T) {
	for _, c := range wrongCircuits() {
		for _, x := range someOperands(max(1, len(c.Gates)))[:3] {
			for _, f := range allBuilders() {
				checkNotBuilt(t, f, c, x)
			}
		}
	}
	// The gates are valid, but an output is none of them, although it will be one.
	for _, wire := range []int{-1, 11, 12, 14, 20, maxGates} {
		c := impl.Circuit{Gates: mixedCircuit().Gates, Outs: []int{0, wire}}
		for _, f := range allBuilders() {
			checkNotBuilt(t, f, c, someOperands(11)[4])
		}
	}
}

// A circuit without gates has no words, but constants can be appended to it.
func TestBuildersOnNoGates(t *testing.T) {
	for _, c := range []impl.Circuit{{}, {Gates: []impl.Gate{}, Outs: []int{}}} {
		for _, f := range wordBuilders() {
			checkNotBuilt(t, f, c, operands{})
			for _, wire := range []int{0, -1, 1, 4} {
				word := slices.Repeat([]int{wire}, wordWires)
				checkNotBuilt(t, f, c, operands{wire, word, word})
				checkNotBuilt(t, f, c, operands{wire, nil, nil})
			}
		}
		checkBuilt(t, constBuilder(9), c, operands{})
	}
}

// Words with fewer or more than four wires, one of them or both.
func TestBuildersOfOtherLengths(t *testing.T) {
	lengths := slices.Concat(countsFrom(0, 3), countsFrom(5, 20), []int{256, 256 + wordWires, 65536 + wordWires})
	for _, c := range baseCircuits() {
		for _, right := range someOperands(len(c.Gates))[2:5] {
			for _, length := range lengths {
				long := slices.Repeat(right.a, length/wordWires+1)[:length]
				for _, f := range wordBuilders() {
					checkNotBuilt(t, f, c, operands{right.s, long, right.b})
					checkNotBuilt(t, f, c, operands{right.s, right.a, long})
					checkNotBuilt(t, f, c, operands{right.s, long, long})
				}
			}
			for _, f := range wordBuilders() {
				checkNotBuilt(t, f, c, operands{right.s, nil, right.b})
				checkNotBuilt(t, f, c, operands{right.s, right.a, nil})
				checkNotBuilt(t, f, c, operands{right.s, nil, nil})
				// The wires of both words together are enough for two words.
				checkNotBuilt(t, f, c, operands{right.s, right.a[:3], append(slices.Clone(right.b), 0)})
				checkNotBuilt(t, f, c, operands{right.s, []int{}, slices.Concat(right.a, right.b)})
				checkBuilt(t, f, c, right)
			}
		}
	}
}

// wrongWires are no wires of a circuit with so many gates: those that are
// appended are not there yet.
func wrongWires(count int) []int {
	wrong := slices.Concat(countsFrom(count, count+40), []int{-count, -count - 1, count + 100, maxGates - 1, maxGates, maxGates + 1, 1 << 32, 1<<32 + count - 1, -1 << 32, -1<<32 + 1}, fieldNumbers)
	return slices.DeleteFunc(wrong, func(wire int) bool { return wire >= 0 && wire < count })
}

// A wire that is none in each place of each word, and as the wire of WordMux.
func TestBuildersOfWrongWires(t *testing.T) {
	for _, c := range baseCircuits() {
		for _, right := range someOperands(len(c.Gates))[2:5] {
			for _, wire := range wrongWires(len(c.Gates)) {
				for _, f := range wordBuilders() {
					for place := range wordWires {
						wrongA, wrongB := withNumber(right.a, place, wire), withNumber(right.b, place, wire)
						checkNotBuilt(t, f, c, operands{right.s, wrongA, right.b})
						checkNotBuilt(t, f, c, operands{right.s, right.a, wrongB})
						checkNotBuilt(t, f, c, operands{right.s, wrongA, wrongB})
					}
				}
			}
		}
	}
}

// The wire of WordMux is checked, and no other builder looks at it.
func TestBuildersOfWrongChoices(t *testing.T) {
	for _, c := range baseCircuits() {
		for _, right := range someOperands(len(c.Gates)) {
			for _, wire := range wrongWires(len(c.Gates)) {
				x := operands{wire, right.a, right.b}
				for _, f := range slices.DeleteFunc(wordBuilders(), func(f builder) bool { return !isMux(f) }) {
					checkNotBuilt(t, f, c, x)
					checkNotBuilt(t, f, c, operands{wire, right.a[:3], right.b})
					for _, s := range []int{0, len(c.Gates) - 1, right.a[1], right.b[2]} {
						checkBuilt(t, f, c, operands{s, right.a, right.b})
					}
				}
			}
		}
	}
}

// Circuits with as many gates as there may be, and with more.
func TestBuildersOnManyGates(t *testing.T) {
	counts := slices.Concat(countsFrom(maxBuiltOn-3, maxBuiltOn+3), []int{5000, maxBuiltOn + 40, maxBuiltOn + 60, maxBuiltOn + 66, maxGates - 4, maxGates - 1, maxGates, maxGates + 1, 2 * maxGates})
	for _, count := range counts {
		constants := circuitOf(slices.Repeat([]impl.Gate{constGate(1)}, count)...)
		for _, c := range []impl.Circuit{constants, largeCircuit(count), {Gates: largeCircuit(count).Gates, Outs: []int{0, count - 1}}} {
			for _, x := range someOperands(count) {
				for _, f := range allBuilders() {
					if count <= maxBuiltOn {
						checkBuilt(t, f, c, x)
					} else {
						checkNotBuilt(t, f, c, x)
					}
				}
			}
		}
	}
	if maxBuiltOn != 5900 || impl.MaxGates-100 != maxBuiltOn {
		t.Error("the limit is not that of the document")
	}
}

// guarded are arguments of a builder that are parts of larger lists, with other
// elements before and behind them.
type guarded struct {
	gates   []impl.Gate
	numbers []int
	c       impl.Circuit
	x       operands
}

func guard(c impl.Circuit, x operands) guarded {
	gates := slices.Concat([]impl.Gate{{Kind: 9}}, c.Gates, slices.Repeat([]impl.Gate{{Kind: 8, A: -1}}, 150))
	numbers := slices.Concat([]int{77}, c.Outs, countsFrom(900, 999), x.a, countsFrom(600, 699), x.b, countsFrom(500, 599))
	firstA := 1 + len(c.Outs) + 100
	firstB := firstA + len(x.a) + 100
	return guarded{
		gates:   gates,
		numbers: numbers,
		c:       impl.Circuit{Gates: gates[1 : 1+len(c.Gates)], Outs: numbers[1 : 1+len(c.Outs)]},
		x:       operands{x.s, numbers[firstA : firstA+len(x.a)], numbers[firstB : firstB+len(x.b)]},
	}
}

// overwriteGates writes into a list of gates and behind it.
func overwriteGates(gates []impl.Gate) {
	gates = gates[:cap(gates)]
	for i := range gates {
		gates[i] = impl.Gate{Kind: -9, A: -9, B: -9}
	}
}

// guardedCalls are arguments that are accepted, and some that are not.
func guardedCalls() []guarded {
	calls := []guarded{guard(impl.Circuit{}, operands{}), guard(largeCircuit(maxBuiltOn+1), someOperands(40)[4])}
	for _, c := range baseCircuits() {
		for _, x := range someOperands(len(c.Gates)) {
			calls = append(calls, guard(c, x))
			calls = append(calls, guard(c, operands{x.s, withNumber(x.a, 2, -1), x.b}))
			calls = append(calls, guard(c, operands{x.s, x.a, x.b[:3]}))
			calls = append(calls, guard(c, operands{x.s, append(slices.Clone(x.a), 0), x.b}))
		}
	}
	for _, c := range []impl.Circuit{circuitOf(notGate(0)), {Gates: mixedCircuit().Gates, Outs: []int{0, 11}}} {
		calls = append(calls, guard(c, operands{0, make([]int, 4), make([]int, 4)}))
	}
	return calls
}

// No builder writes into its lists or behind them, also where there is room for
// all its gates, and what is behind them does not count.
func TestBuildersLeaveTheLists(t *testing.T) {
	for _, call := range guardedCalls() {
		gatesGiven, numbersGiven := slices.Clone(call.gates), slices.Clone(call.numbers)
		for _, f := range append(allBuilders(), constBuilder(16)) {
			alone, wires := f.build(cloneCircuit(call.c), call.x.clone())
			checkBuiltTo(t, f, call.c, call.x, alone, wires)
			if !slices.Equal(call.gates, gatesGiven) || !slices.Equal(call.numbers, numbersGiven) {
				t.Errorf("%s wrote behind %s or %v", f.name, briefCircuit(call.c), call.x)
			}
		}
	}
}

// What is returned is new memory, also where nothing is built: neither that of an
// argument, nor that of another result, nor that of another list of the result.
func TestBuilderResultsAreNew(t *testing.T) {
	for _, call := range guardedCalls() {
		gatesGiven, numbersGiven := slices.Clone(call.gates), slices.Clone(call.numbers)
		for _, f := range append(allBuilders(), constBuilder(16)) {
			first, wires := f.build(call.c, call.x)
			second, again := f.build(call.c, call.x)
			want, wiresWant := cloneCircuit(second), slices.Clone(again)
			overwrite(wires)
			if !sameCircuit(first, want) {
				t.Errorf("the wires of %s share memory with %s", f.name, briefCircuit(first))
			}
			overwrite(first.Outs)
			overwriteGates(first.Gates)
			if !slices.Equal(call.gates, gatesGiven) || !slices.Equal(call.numbers, numbersGiven) {
				t.Errorf("the results of %s share memory with %s or %v", f.name, briefCircuit(call.c), call.x)
			}
			overwriteGates(call.gates)
			overwrite(call.numbers)
			if !sameCircuit(second, want) || !slices.Equal(again, wiresWant) {
				t.Errorf("%s: %s and %v changed", f.name, briefCircuit(second), again)
			}
			copy(call.gates, gatesGiven)
			copy(call.numbers, numbersGiven)
		}
	}
}

// The lists of the arguments can be the same memory, as far as each is valid.
func TestBuildersOfSharedLists(t *testing.T) {
	shared := []int{3, 9, 0, 4, 10, 1, 1, 2}
	c := impl.Circuit{Gates: mixedCircuit().Gates, Outs: shared[:5]}
	for _, x := range []operands{{0, shared[:4], shared[:4]}, {5, shared[1:5], shared[2:6]}, {10, shared[4:], shared[1:5]}} {
		for _, f := range allBuilders() {
			checkComputed(t, f, c, x, bitSets())
		}
	}
}

// Circuits that were extended from the same one do not change each other.
func TestBuildersBranch(t *testing.T) {
	c := inputsOf(countsFrom(0, 8)...)
	for range 20 {
		c, _ = impl.WordConst(c, 5)
	}
	for _, left := range allBuilders() {
		for _, right := range allBuilders() {
			first, firstWires := left.build(c, nine())
			second, secondWires := right.build(c, nine())
			wantFirst, _ := left.after(c, nine())
			wantSecond, _ := right.after(c, nine())
			third, _ := right.after(wantFirst, nine())
			checkBuiltTo(t, right, first, nine(), third, countedOnAll(secondWires, len(first.Gates)-len(c.Gates)))
			if !sameCircuit(first, wantFirst) || !sameCircuit(second, wantSecond) {
				t.Errorf("%s with %v and %s with %v changed each other", left.name, firstWires, right.name, secondWires)
			}
		}
	}
}

// countedOnAll returns the wires of a builder behind so many further gates.
func countedOnAll(wires []int, further int) []int {
	moved := []int{}
	for _, wire := range wires {
		moved = append(moved, wire+further)
	}
	return moved
}

// The same arguments have the same results again, whatever was called between.
func TestBuildersAgain(t *testing.T) {
	for range 5 {
		for _, c := range append(wrongCircuits()[:40], baseCircuits()...) {
			for i, f := range allBuilders() {
				f.build(c, madeOperands(i, 30))
				f.build(mixedCircuit(), operands{math.MinInt64, []int{1, 2}, []int{-1, -1, -1, -1}})
				checkBuilt(t, f, mixedCircuit(), operands{3, []int{7, 8, 9, 10}, []int{0, 1, 2, 3}})
				checkNotBuilt(t, f, largeCircuit(maxBuiltOn+1), someOperands(9)[2])
			}
		}
	}
}
