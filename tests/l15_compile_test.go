package tests

import (
	"fmt"
	"math"
	"slices"
	"strings"
	"testing"

	"loop.example/g00979/impl"
)

// mostCompiled is the number of gates of the largest circuit that is compiled:
// all statements are products.
const mostCompiled = 4 + maxUnrolled*34

// stmtBuilder returns the builder of a statement with an operation, or of OpMux.
func stmtBuilder(op int) builder {
	const bits = "z0 = a0 OF b0, z1 = a1 OF b1, z2 = a2 OF b2, z3 = a3 OF b3"
	builders := wordBuilders()
	switch op {
	case impl.OpAnd:
		return builder{name: "OpAnd", steps: strings.ReplaceAll(bits, "OF", "&"), results: "z0 z1 z2 z3"}
	case impl.OpXor:
		return builder{name: "OpXor", steps: strings.ReplaceAll(bits, "OF", "^"), results: "z0 z1 z2 z3"}
	}
	names := map[int]string{impl.OpAdd: "WordAdd", impl.OpSub: "WordSub", impl.OpMul: "WordMul", impl.OpLess: "WordLess", impl.OpEqual: "WordEqual", impl.OpMux: "WordMux"}
	return builders[slices.IndexFunc(builders, func(f builder) bool { return f.name == names[op] })]
}

// compiledOf is the definition of the circuit of a program: the steps of the
// builders, statement by statement.
func compiledOf(list []impl.Stmt) impl.Circuit {
	c, zeros := constBuilder(0).after(impl.Circuit{}, operands{})
	words := slices.Repeat([][]int{zeros}, maxRegs)
	for _, x := range unrolledOf(list) {
		var word []int
		switch x.Op {
		case impl.OpOut:
			c.Outs = append(c.Outs, words[x.A]...)
			continue
		case impl.OpConst:
			c, word = constBuilder(x.N).after(c, operands{})
		case impl.OpInput:
			for bit := range wordWires {
				word = append(word, len(c.Gates))
				c.Gates = append(c.Gates, inputGate(16*x.A+4*x.N+bit))
			}
		case impl.OpMux:
			c, word = stmtBuilder(x.Op).after(c, operands{words[x.A][0], words[x.B], words[x.C]})
		default:
			c, word = stmtBuilder(x.Op).after(c, operands{a: words[x.A], b: words[x.B]})
		}
		words[x.Dst] = append(word, slices.Repeat([]int{0}, wordWires-len(word))...)
	}
	return c
}

// inputBitsOf is the definition of the input bits.
func inputBitsOf(inputs [][]int) []int {
	bits := []int{}
	for _, number := range slices.Concat(inputs...) {
		bits = append(bits, number%2, number/2%2, number/4%2, number/8)
	}
	return bits
}

// checkRunOf checks the words of the outputs of a circuit, and that its lists
// and the inputs stay as they are.
func checkRunOf(t *testing.T, c impl.Circuit, inputs [][]int, want []int) {
	t.Helper()
	before, given := cloneCircuit(c), cloneInputs(inputs)
	if got, ok := impl.RunCircuit(c, inputs); !slices.Equal(got, want) || !ok {
		t.Errorf("RunCircuit of %s with %v = %.300s, %v; want %.300s", briefCircuit(before), given, fmt.Sprint(got), ok, fmt.Sprint(want))
	}
	if !sameCircuit(c, before) || !equalInputs(inputs, given) {
		t.Errorf("RunCircuit changed %s and %v to %s and %v", briefCircuit(before), given, briefCircuit(c), inputs)
	}
}

func checkNoRunOf(t *testing.T, c impl.Circuit, inputs [][]int) {
	t.Helper()
	before, given := cloneCircuit(c), cloneInputs(inputs)
	if got, ok := impl.RunCircuit(c, inputs); len(got) != 0 || ok {
		t.Errorf("RunCircuit of %s with %.300s = %.300s, %v", briefCircuit(before), fmt.Sprint(given), fmt.Sprint(got), ok)
	}
	if !sameCircuit(c, before) || !equalInputs(inputs, given) {
		t.Errorf("RunCircuit changed %s and %.300s to %s and %.300s", briefCircuit(before), fmt.Sprint(given), briefCircuit(c), fmt.Sprint(inputs))
	}
}

// checkCompiled checks that a program has exactly the gates and outputs of the
// definition, and returns its circuit.
func checkCompiled(t *testing.T, list []impl.Stmt) impl.Circuit {
	t.Helper()
	before, want := slices.Clone(list), compiledOf(list)
	c, ok := impl.Compile(list)
	if !sameCircuit(c, want) || !ok {
		t.Errorf("Compile of %.400q = %s, %v; want %s", textOf(before), briefCircuit(c), ok, briefCircuit(want))
	}
	if !slices.Equal(list, before) {
		t.Errorf("Compile changed %.400q to %s", textOf(before), brief(list))
	}
	if !impl.CircuitOk(c) {
		t.Errorf("Compile of %.400q = %s, which is not valid", textOf(before), briefCircuit(c))
	}
	return c
}

// checkSameOutputs checks that the circuit of a program has the outputs of the
// program, for each of these inputs.
func checkSameOutputs(t *testing.T, list []impl.Stmt, inputLists ...[][]int) {
	t.Helper()
	c := checkCompiled(t, list)
	for _, inputs := range inputLists {
		want, ok := impl.RunProgram(list, inputs)
		if outputs := outputsOf(list, inputs); !slices.Equal(want, outputs) || !ok {
			t.Errorf("RunProgram of %.400q with %v = %v, %v; want %v", textOf(list), inputs, want, ok, outputs)
		}
		checkRunOf(t, c, inputs, want)
	}
}

func checkNotCompiled(t *testing.T, list []impl.Stmt) {
	t.Helper()
	before := slices.Clone(list)
	if c, ok := impl.Compile(list); len(c.Gates) != 0 || len(c.Outs) != 0 || ok {
		t.Errorf("Compile of %s = %s, %v", brief(before), briefCircuit(c), ok)
	}
	if !slices.Equal(list, before) {
		t.Errorf("Compile changed %s to %s", brief(before), brief(list))
	}
}

// checkCompiles checks a list, program or not, with all sets of inputs.
func checkCompiles(t *testing.T, list []impl.Stmt) {
	t.Helper()
	_, ok := impl.Unroll(list)
	if unrollable(list) != ok {
		t.Errorf("Unroll of %s is %v", brief(list), ok)
	}
	if ok {
		checkSameOutputs(t, list, inputSets()...)
	} else {
		checkNotCompiled(t, list)
	}
}

// checkInputBits checks the bits of inputs, and that these stay as they are.
func checkInputBits(t *testing.T, inputs [][]int, want []int) {
	t.Helper()
	given := cloneInputs(inputs)
	if got := impl.InputBits(inputs); !slices.Equal(got, want) {
		t.Errorf("InputBits of %.300s = %v; want %v", fmt.Sprint(given), got, want)
	}
	if !equalInputs(inputs, given) {
		t.Errorf("InputBits changed %.300s to %.300s", fmt.Sprint(given), fmt.Sprint(inputs))
	}
}

func TestInputBits(t *testing.T) {
	inputs := [][]int{{3, 1, 4, 1}, {5, 9, 2, 6}, {0, 15, 7, 8}, {10, 11, 12, 13}, {14, 1, 0, 2}}
	want := []int{
		1, 1, 0, 0, 1, 0, 0, 0, 0, 0, 1, 0, 1, 0, 0, 0,
		1, 0, 1, 0, 1, 0, 0, 1, 0, 1, 0, 0, 0, 1, 1, 0,
		0, 0, 0, 0, 1, 1, 1, 1, 1, 1, 1, 0, 0, 0, 0, 1,
		0, 1, 0, 1, 1, 1, 0, 1, 0, 0, 1, 1, 1, 0, 1, 1,
		0, 1, 1, 1, 1, 0, 0, 0, 0, 0, 0, 0, 0, 1, 0, 0,
	}
	checkInputBits(t, inputs, want)
	if bits := inputBitsOf(inputs); !slices.Equal(bits, want) || len(want) != maxBits {
		t.Errorf("the definition has %v", bits)
	}
	checkInputBits(t, sameInputs(0), bitsAt())
	checkInputBits(t, sameInputs(maxNumber), slices.Repeat([]int{1}, maxBits))
	for seed := range 300 {
		checkInputBits(t, madeInputs(seed), inputBitsOf(madeInputs(seed)))
	}
}

// Each bit of each input alone is at its index.
func TestIndexOfEachInputBit(t *testing.T) {
	for party := range maxParties {
		for number := range maxInputs {
			for bit := range wordWires {
				index := (party*maxInputs+number)*4 + bit
				one := withInput(sameInputs(0), party, number, 1<<bit)
				checkInputBits(t, one, bitsAt(index))
				others := slices.Repeat([]int{1}, maxBits)
				others[index] = 0
				checkInputBits(t, withInput(sameInputs(maxNumber), party, number, maxNumber-1<<bit), others)
			}
			for n := -40; n <= 60; n++ {
				for _, inputs := range inputSets() {
					changed := withInput(inputs, party, number, n)
					if n < 0 || n > maxNumber {
						checkInputBits(t, changed, nil)
					} else {
						checkInputBits(t, changed, inputBitsOf(changed))
					}
				}
			}
		}
	}
}

func TestInputBitsOfInvalidInputs(t *testing.T) {
	for _, inputs := range wrongInputs() {
		checkInputBits(t, inputs, nil)
	}
	// As many numbers as there are inputs, in other lists.
	for _, counts := range [][2]int{{4, 5}, {2, 10}, {10, 2}, {1, 20}, {20, 1}, {5, 3}, {5, 5}, {4, 4}, {6, 4}, {0, 4}, {5, 0}} {
		inputs := [][]int{}
		for range counts[0] {
			inputs = append(inputs, slices.Repeat([]int{1}, counts[1]))
		}
		checkInputBits(t, inputs, nil)
	}
}

// checkWordsOf checks the numbers of some bits, and that these stay as they are.
func checkWordsOf(t *testing.T, bits []int, want []int) {
	t.Helper()
	given := slices.Clone(bits)
	if got := impl.WordsOf(bits); !slices.Equal(got, want) {
		t.Errorf("WordsOf of %d bits %.300s = %.300s; want %.300s", len(given), fmt.Sprint(given), fmt.Sprint(got), fmt.Sprint(want))
	}
	if !slices.Equal(bits, given) {
		t.Errorf("WordsOf changed %.300s to %.300s", fmt.Sprint(given), fmt.Sprint(bits))
	}
}

func TestWordsOf(t *testing.T) {
	checkWordsOf(t, nil, nil)
	checkWordsOf(t, []int{}, nil)
	checkWordsOf(t, make([]int, 0, 8), nil)
	checkWordsOf(t, []int{0, 0, 0, 0}, []int{0})
	checkWordsOf(t, []int{1, 0, 0, 0}, []int{1})
	checkWordsOf(t, []int{0, 1, 0, 0}, []int{2})
	checkWordsOf(t, []int{0, 0, 1, 0}, []int{4})
	checkWordsOf(t, []int{0, 0, 0, 1}, []int{8})
	checkWordsOf(t, []int{1, 1, 0, 1}, []int{11})
	checkWordsOf(t, []int{1, 0, 1, 0, 0, 1, 0, 0}, []int{5, 2})
	checkWordsOf(t, []int{0, 0, 0, 0, 1, 1, 1, 1}, []int{0, 15})
	checkWordsOf(t, bitsAt(0, 1, 4, 10, 79), []int{3, 1, 4, 0, 0, 0, 0, 0, 0, 0, 0, 0, 0, 0, 0, 0, 0, 0, 0, 8})
	for a := range 16 {
		checkWordsOf(t, bitsOf(a, 4), []int{a})
		for b := range 16 {
			checkWordsOf(t, slices.Concat(bitsOf(a, 4), bitsOf(b, 4)), []int{a, b})
			checkWordsOf(t, slices.Concat(bitsOf(b, 4), make([]int, 4), bitsOf(a, 4)), []int{b, 0, a})
		}
	}
}

// All numbers of bits: those that are not divisible by 4 have no words.
func TestWordsOfAllLengths(t *testing.T) {
	numbers := []int{}
	for place := range 2000 {
		numbers = append(numbers, (place*7+place/16)%16)
	}
	bits := inputBitsOf([][]int{numbers})
	for _, length := range append(countsFrom(0, 300), 1000, 1001, 1002, 1003, 4*2000-1, 4*2000) {
		if length%4 == 0 {
			checkWordsOf(t, bits[:length], numbers[:length/4])
		} else {
			checkWordsOf(t, bits[:length], nil)
			checkWordsOf(t, make([]int, length), nil)
		}
	}
}

// An element that is not a bit, in each place of a group, of the first one and of
// later ones.
func TestWordsOfOtherNumbers(t *testing.T) {
	wrong := slices.DeleteFunc(slices.Concat(fieldNumbers, countsFrom(-20, 40)), func(n int) bool { return n == 0 || n == 1 })
	for _, n := range wrong {
		for _, length := range []int{1, 2, 3, 4, 5, 6, 7, 8, 9, 12, 80} {
			for place := range length {
				for bit := range 2 {
					checkWordsOf(t, withNumber(slices.Repeat([]int{bit}, length), place, n), nil)
				}
			}
			checkWordsOf(t, slices.Repeat([]int{n}, length), nil)
		}
		checkWordsOf(t, withNumber(withNumber(make([]int, 8), 2, n), 5, -n), nil)
	}
}

// The words of the input bits are the inputs, in their order.
func TestWordsOfInputBits(t *testing.T) {
	for seed := range 200 {
		inputs := madeInputs(seed)
		checkWordsOf(t, impl.InputBits(inputs), slices.Concat(inputs...))
		all := impl.Circuit{Gates: inputsOf(countsFrom(0, maxBits-1)...).Gates, Outs: countsFrom(0, maxBits-1)}
		checkRunOf(t, all, inputs, slices.Concat(inputs...))
	}
}

// gatesText returns gates as a text: a constant is 0 or 1, an input bit has the
// letter i, and the wires have their numbers.
func gatesText(c impl.Circuit) string {
	texts := []string{}
	for _, g := range c.Gates {
		switch g {
		case inputGate(g.A):
			texts = append(texts, fmt.Sprint("i", g.A))
		case constGate(g.A):
			texts = append(texts, fmt.Sprint(g.A))
		case xorGate(g.A, g.B):
			texts = append(texts, fmt.Sprint(g.A, "^", g.B))
		case andGate(g.A, g.B):
			texts = append(texts, fmt.Sprint(g.A, "&", g.B))
		case notGate(g.A):
			texts = append(texts, fmt.Sprint("!", g.A))
		default:
			texts = append(texts, fmt.Sprint(g))
		}
	}
	return strings.Join(texts, " ")
}

// checkGates checks the gates and outputs of the circuit of a program, which are
// written out.
func checkGates(t *testing.T, text string, gates string, outs ...int) {
	t.Helper()
	list := parsed(t, text)
	c, ok := impl.Compile(list)
	want := strings.Join(strings.Fields(gates), " ")
	if got := gatesText(c); got != want || !slices.Equal(c.Outs, outs) || !ok {
		t.Errorf("Compile of %q = %s, %v, %v; want %s, %v", text, got, c.Outs, ok, want, outs)
	}
	checkSameOutputs(t, list, append(inputSets(), madeInputs(3), madeInputs(4))...)
}

func TestCompile(t *testing.T) {
	checkGates(t, "out r0", "0 0 0 0", 0, 1, 2, 3)
	checkGates(t, "const r3 6", "0 0 0 0 0 1 1 0")
	checkGates(t, "const r3 11, out r3", "0 0 0 0 1 1 0 1", 4, 5, 6, 7)
	checkGates(t, "const r0 0, out r0, out r1", "0 0 0 0 0 0 0 0", 4, 5, 6, 7, 0, 1, 2, 3)
	checkGates(t, "input r0 p1 2, out r0", "0 0 0 0 i24 i25 i26 i27", 4, 5, 6, 7)
	checkGates(t, "input r7 p4 3, input r7 p0 0, out r7", "0 0 0 0 i76 i77 i78 i79 i0 i1 i2 i3", 8, 9, 10, 11)
	checkGates(t, "loop 3, const r1 1, end, out r1", "0 0 0 0 1 0 0 0 1 0 0 0 1 0 0 0", 12, 13, 14, 15)
	checkGates(t, "const r1 2, loop 2, out r1, input r1 p0 1, out r0, end, out r1",
		"0 0 0 0 0 1 0 0 i4 i5 i6 i7 i4 i5 i6 i7", 4, 5, 6, 7, 0, 1, 2, 3, 8, 9, 10, 11, 0, 1, 2, 3, 12, 13, 14, 15)
	checkGates(t, "loop 2, out r2, loop 2, xor r2 r2 r0, end, end, out r2",
		"0 0 0 0 0^0 1^1 2^2 3^3 4^0 5^1 6^2 7^3 8^0 9^1 10^2 11^3 12^0 13^1 14^2 15^3", 0, 1, 2, 3, 8, 9, 10, 11, 16, 17, 18, 19)
}

// The gates of each kind of statement with two words: their wires are those from
// 4 and from 8 on.
func TestCompileOperations(t *testing.T) {
	const inputs = "input r0 p0 0, input r1 p1 0, "
	const first = "0 0 0 0 i0 i1 i2 i3 i16 i17 i18 i19 "
	checkGates(t, inputs+"and r2 r0 r1, out r2", first+"4&8 5&9 6&10 7&11", 12, 13, 14, 15)
	checkGates(t, inputs+"and r0 r1 r0, out r0", first+"8&4 9&5 10&6 11&7", 12, 13, 14, 15)
	checkGates(t, inputs+"xor r2 r0 r1, out r2", first+"4^8 5^9 6^10 7^11", 12, 13, 14, 15)
	checkGates(t, inputs+"xor r1 r1 r1, out r1", first+"8^8 9^9 10^10 11^11", 12, 13, 14, 15)
	checkGates(t, inputs+"add r2 r0 r1, out r2", first+`0
		4^12 8^12 4^14 13&14 16^12
		5^17 9^17 5^19 18&19 21^17
		6^22 10^22 6^24 23&24 26^22
		7^11 28^27`, 15, 20, 25, 29)
	checkGates(t, inputs+"sub r2 r1 r0, out r2", first+`!4 !5 !6 !7 1
		8^16 12^16 8^18 17&18 20^16
		9^21 13^21 9^23 22&23 25^21
		10^26 14^26 10^28 27&28 30^26
		11^15 32^31`, 19, 24, 29, 33)
	checkGates(t, inputs+"mul r2 r0 r1, out r2", first+`8&4 8&5 8&6 8&7
		9&4 9&5 9&6 0
		13^19 16^19 13^21 20&21 23^19
		14^24 17^24 14^26 25&26 28^24
		15^18 30^29
		10&4 10&5 0
		27^34 32^34 27^36 35&36 38^34
		31^33 40^39
		11&4 0
		41^42 44^43`, 12, 22, 37, 45)
	checkGates(t, inputs+"less r2 r0 r1, out r2", first+`!8 !9 !10 !11 1
		4^16 12^16 4^18 17&18 20^16
		5^21 13^21 5^23 22&23 25^21
		6^26 14^26 6^28 27&28 30^26
		7^31 15^31 7^33 32&33 35^31
		!36`, 37, 0, 0, 0)
	checkGates(t, inputs+"equal r1 r0 r1, out r1", first+"4^8 !12 5^9 !14 6^10 !16 7^11 !18 13&15 20&17 21&19", 22, 0, 0, 0)
	checkGates(t, inputs+"mux r2 r1 r0 r3, out r2", first+"4^0 8&12 13^0 5^1 8&15 16^1 6^2 8&18 19^2 7^3 8&21 22^3", 14, 17, 20, 23)
	checkGates(t, inputs+"mux r0 r0 r0 r1, out r0", first+"4^8 4&12 13^8 5^9 4&15 16^9 6^10 4&18 19^10 7^11 4&21 22^11", 14, 17, 20, 23)
	// The word of a comparison is read: bit 0 is its wire, and the others are zero.
	checkGates(t, inputs+"equal r2 r0 r1, xor r3 r2 r0, out r3", first+"4^8 !12 5^9 !14 6^10 !16 7^11 !18 13&15 20&17 21&19 22^4 0^5 0^6 0^7", 23, 24, 25, 26)
}

// Programs without statements, and without outputs: the first gates are there.
func TestCompileWithoutOutputs(t *testing.T) {
	for _, list := range [][]impl.Stmt{nil, {}, make([]impl.Stmt, 0, 9), looped(1), looped(8), looped(8, looped(8, looped(8)))} {
		c := checkCompiled(t, list)
		if gatesText(c) != "0 0 0 0" || len(c.Outs) != 0 {
			t.Errorf("Compile of %q = %s", textOf(list), briefCircuit(c))
		}
		checkCompiles(t, list)
	}
	for _, list := range [][]impl.Stmt{
		{constTo(0)}, {inputTo(0, 0)}, {inputTo(0, 0), sumTo(1, 0, 0)}, {muxTo(0, 1, 2, 3)}, looped(3, []impl.Stmt{inputTo(3, 4), muxTo(0, 3, 2, 1)}),
		slices.Repeat([]impl.Stmt{inputTo(0, 0)}, maxStmts),
	} {
		c := checkCompiled(t, list)
		for _, inputs := range inputSets() {
			checkRunOf(t, c, inputs, nil)
		}
		checkNoRunOf(t, c, nil)
		checkNoRunOf(t, c, sameInputs(16))
	}
}

// Each input of each party in each register: the gates have the indexes of its
// bits, and the output has its number.
func TestCompileInputs(t *testing.T) {
	for party := range maxParties {
		for number := range maxInputs {
			for dst := range maxRegs {
				list := []impl.Stmt{inputOf(dst, party, number), outOf(dst)}
				c := checkCompiled(t, list)
				index := 16*party + 4*number
				want := slices.Concat(slices.Repeat([]impl.Gate{constGate(0)}, 4), inputsOf(countsFrom(index, index+3)...).Gates)
				if !slices.Equal(c.Gates, want) || !slices.Equal(c.Outs, []int{4, 5, 6, 7}) {
					t.Errorf("input %d of party %d is %s", number, party, briefCircuit(c))
				}
				for n := range maxNumber + 1 {
					checkRunOf(t, c, withInput(sameInputs(maxNumber-n), party, number, n), []int{n})
				}
				checkSameOutputs(t, list, inputSets()...)
			}
		}
	}
	reader := []impl.Stmt{}
	for party := range maxParties {
		for number := range maxInputs {
			reader = append(reader, inputOf(number*2, party, number), outOf(number*2))
		}
	}
	for seed := range 50 {
		checkRunOf(t, checkCompiled(t, reader), madeInputs(seed), slices.Concat(madeInputs(seed)...))
	}
}

// All statements with an operation on all pairs of numbers, by inputs and by
// constants.
func TestCompileOperationsOfAllNumbers(t *testing.T) {
	for op := impl.OpAdd; op <= impl.OpEqual; op++ {
		c := checkCompiled(t, []impl.Stmt{inputOf(0, 0, 0), inputOf(1, 4, 3), binaryTo(op, 2, 0, 1), outOf(2), binaryTo(op, 0, 1, 0), outOf(0), binaryTo(op, 3, 1, 1), outOf(3)})
		for a := range 16 {
			for b := range 16 {
				inputs := withInput(withInput(madeInputs(a), 0, 0, a), 4, 3, b)
				want := []int{resultOf(op, a, b), resultOf(op, b, a), resultOf(op, b, b)}
				checkRunOf(t, c, inputs, want)
				list := []impl.Stmt{numberTo(4, a), numberTo(5, b), binaryTo(op, 4, 4, 5), outOf(4), outOf(5)}
				checkRunOf(t, checkCompiled(t, list), inputs, []int{want[0], b})
			}
		}
	}
}

// Only the lowest bit of the condition chooses, which can be an odd or an even
// number greater than 1, or a register that was never set.
func TestCompileMux(t *testing.T) {
	list := parsed(t, "input r5 p2 1, input r6 p0 3, input r7 p4 0, mux r1 r5 r6 r7, out r1, mux r5 r5 r7 r6, out r5, mux r2 r3 r6 r7, out r2, mux r2 r0 r7 r6, out r2, mux r6 r7 r0 r6, out r6")
	c := checkCompiled(t, list)
	for n := range 16 {
		for seed := range 30 {
			inputs := withInput(madeInputs(seed), 2, 1, n)
			x, y := inputs[0][3], inputs[4][0]
			want := []int{y, x, y, x, x}
			if n%2 == 1 {
				want[0], want[1] = x, y
			}
			if y%2 == 1 {
				want[4] = 0
			}
			checkRunOf(t, c, inputs, want)
			checkSameOutputs(t, list, inputs)
		}
		chosen := []int{9, 6}[n%2]
		list := []impl.Stmt{numberTo(0, n), numberTo(1, 6), numberTo(2, 9), muxTo(3, 0, 1, 2), outOf(3), muxTo(0, 0, 1, 2), outOf(0), muxTo(4, 7, 1, 2), outOf(4), outOf(1)}
		checkSameOutputs(t, list, inputSets()...)
		checkRunOf(t, checkCompiled(t, list), sameInputs(n), []int{chosen, chosen, 9, 6})
	}
}

// Registers that were never set: their words are the wires of the first gates,
// whoever reads them.
func TestCompileRegistersNeverSet(t *testing.T) {
	for register := range maxRegs {
		c := checkCompiled(t, []impl.Stmt{outOf(register)})
		if gatesText(c) != "0 0 0 0" || !slices.Equal(c.Outs, []int{0, 1, 2, 3}) {
			t.Errorf("register %d is %s", register, briefCircuit(c))
		}
		other := (register + 3) % maxRegs
		for op := impl.OpAdd; op <= impl.OpEqual; op++ {
			for _, x := range []impl.Stmt{binaryTo(op, 0, register, register), binaryTo(op, register, other, register), binaryTo(op, 1, register, other), binaryTo(op, other, other, register)} {
				checkSameOutputs(t, []impl.Stmt{x, outOf(x.Dst), outOf(register)}, inputSets()...)
				checkSameOutputs(t, []impl.Stmt{inputTo(other, 2), x, outOf(x.Dst), outOf(register), outOf(other)}, inputSets()...)
			}
		}
		for _, x := range []impl.Stmt{muxTo(0, register, other, register), muxTo(register, other, register, register), muxTo(other, register, register, other)} {
			checkSameOutputs(t, []impl.Stmt{inputTo(other, 1), x, outOf(x.Dst)}, inputSets()...)
			checkSameOutputs(t, []impl.Stmt{x, outOf(x.Dst)}, inputSets()...)
		}
		// It is set only behind its first output, and in the loop read before.
		checkSameOutputs(t, parsed(t, strings.ReplaceAll("loop 3, out rN, input rN p3 2, out rN, end", "N", fmt.Sprint(register))), inputSets()...)
	}
}

// Each builder that reads a register that was never set is given the first wires.
func TestFirstWiresAreRead(t *testing.T) {
	checkGates(t, "and r0 r1 r2, out r0", "0 0 0 0 0&0 1&1 2&2 3&3", 4, 5, 6, 7)
	checkGates(t, "input r0 p0 0, and r1 r0 r1, out r1", "0 0 0 0 i0 i1 i2 i3 4&0 5&1 6&2 7&3", 8, 9, 10, 11)
	checkGates(t, "input r0 p0 0, and r1 r1 r0, out r1", "0 0 0 0 i0 i1 i2 i3 0&4 1&5 2&6 3&7", 8, 9, 10, 11)
	checkGates(t, "equal r5 r6 r7, out r5", "0 0 0 0 0^0 !4 1^1 !6 2^2 !8 3^3 !10 5&7 12&9 13&11", 14, 0, 0, 0)
	checkGates(t, "input r0 p0 0, mux r2 r1 r0 r3, out r2", "0 0 0 0 i0 i1 i2 i3 4^0 0&8 9^0 5^1 0&11 12^1 6^2 0&14 15^2 7^3 0&17 18^3", 10, 13, 16, 19)
	// A register that was set to 0 is not one that was never set.
	checkGates(t, "const r4 0, xor r1 r4 r3, out r1", "0 0 0 0 0 0 0 0 4^0 5^1 6^2 7^3", 8, 9, 10, 11)
	// The word of a comparison has zero, and not the last number that was 0.
	checkGates(t, "const r4 0, equal r4 r4 r4, out r4", "0 0 0 0 0 0 0 0 4^4 !8 5^5 !10 6^6 !12 7^7 !14 9&11 16&13 17&15", 18, 0, 0, 0)
}

// Dst is one of the operands, or all of them, also several times one behind the
// other.
func TestCompileDstIsOperand(t *testing.T) {
	for op := impl.OpAdd; op <= impl.OpEqual; op++ {
		for _, x := range []impl.Stmt{binaryTo(op, 0, 0, 1), binaryTo(op, 1, 0, 1), binaryTo(op, 0, 0, 0), binaryTo(op, 1, 1, 0), binaryTo(op, 0, 1, 0)} {
			list := []impl.Stmt{inputOf(0, 1, 1), inputOf(1, 3, 2), x, outOf(0), outOf(1), x, x, outOf(0), outOf(1)}
			checkSameOutputs(t, list, append(inputSets(), madeInputs(1), madeInputs(2))...)
			checkSameOutputs(t, looped(4, list), inputSets()...)
		}
	}
	for number := range power(3, 4) {
		fields := digitsOf(3, 4, number)
		x := muxTo(fields[0], fields[1], fields[2], fields[3])
		list := []impl.Stmt{inputOf(0, 1, 1), inputOf(1, 3, 2), inputOf(2, 4, 3), x, outOf(0), outOf(1), outOf(2), x, outOf(x.Dst)}
		checkSameOutputs(t, list, append(inputSets(), madeInputs(5), madeInputs(6))...)
	}
}

// An output keeps the wires that its register has there: it is followed by
// statements that change the register, and can be there several times.
func TestCompileOutputs(t *testing.T) {
	inputs := [][]int{{3, 1, 4, 1}, {5, 9, 2, 6}, {0, 15, 7, 8}, {10, 11, 12, 13}, {14, 1, 0, 2}}
	cases := []struct {
		text string
		want []int
	}{
		{"input r0 p0 2, out r0", []int{4}},
		{"input r0 p0 2, out r0, out r0", []int{4, 4}},
		{"input r0 p0 2, input r1 p2 2, out r0, add r0 r0 r1, out r0, out r1", []int{4, 11, 7}},
		{"out r0, input r0 p1 1, out r0, const r0 2, out r0, out r0, less r0 r1 r0, out r0", []int{0, 9, 2, 2, 1}},
		{"input r0 p3 0, input r1 p3 1, out r1, out r0, out r1, out r2", []int{11, 10, 11, 0}},
		{"const r1 3, loop 3, out r0, add r0 r0 r1, out r0, end", []int{0, 3, 3, 6, 6, 9}},
		{"input r1 p0 0, loop 2, out r1, loop 2, mul r1 r1 r1, out r1, end, end", []int{3, 9, 1, 1, 1, 1}},
	}
	for _, c := range cases {
		list := parsed(t, c.text)
		checkRunOf(t, checkCompiled(t, list), inputs, c.want)
		checkSameOutputs(t, list, append(inputSets(), inputs)...)
	}
	// No gates are there for the outputs, however many there are.
	for a := range maxRegs {
		few := checkCompiled(t, []impl.Stmt{inputOf(a, 2, 2), outOf(a)})
		many := checkCompiled(t, append([]impl.Stmt{inputOf(a, 2, 2)}, looped(8, slices.Repeat([]impl.Stmt{outOf(a)}, 14))...))
		if !slices.Equal(few.Gates, many.Gates) || !slices.Equal(many.Outs, slices.Repeat([]int{4, 5, 6, 7}, 112)) {
			t.Errorf("the outputs of register %d have gates: %s", a, briefCircuit(many))
		}
	}
}

// Every statement, between others that set the registers and put them out, also
// in a loop.
func TestCompileAllStatements(t *testing.T) {
	before := []impl.Stmt{numberTo(0, 11), inputOf(1, 1, 2), inputOf(2, 4, 0), numberTo(3, 6), inputOf(4, 0, 3), inputOf(5, 3, 1)}
	after := []impl.Stmt{outOf(0), outOf(1), outOf(2), outOf(3), outOf(4), outOf(5), outOf(6), outOf(7)}
	for i, x := range allStatements() {
		if isLoop(x) || isEnd(x) {
			continue
		}
		checkSameOutputs(t, slices.Concat(before, []impl.Stmt{x}, after), madeInputs(i))
		checkSameOutputs(t, slices.Concat(before, looped(3, []impl.Stmt{x, outOf(x.Dst)}), after), madeInputs(i))
	}
}

// All lists of some statements up to a length: inputs, operations that read and
// overwrite each other's registers, outputs, loops and ends.
func TestCompileAllShortLists(t *testing.T) {
	letters := []impl.Stmt{inputTo(0, 0), inputTo(1, 3), binaryTo(impl.OpSub, 0, 0, 1), binaryTo(impl.OpEqual, 1, 1, 0), muxTo(1, 0, 2, 1), outOf(0), outOf(1), loopOf(3), loopEnd}
	for length := range 5 {
		for number := range power(len(letters), length) {
			list := []impl.Stmt{}
			for _, digit := range digitsOf(len(letters), length, number) {
				list = append(list, letters[digit])
			}
			checkCompiles(t, list)
		}
	}
}

// Long programs, with loops, and several inputs of all parties.
func TestCompileMadePrograms(t *testing.T) {
	programs, large, outputs := 0, 0, 0
	for seed := range 1500 {
		list := madeProgram(seed)
		unrolled := unrolledOf(list)
		if len(unrolled) > maxUnrolled {
			checkNotCompiled(t, list)
			large++
			continue
		}
		checkSameOutputs(t, list, madeInputs(seed), madeInputs(seed+1), sameInputs(maxNumber))
		if len(unrolled) <= maxStmts {
			// A loop is the same as its statements repeated.
			c, _ := impl.Compile(list)
			if again, _ := impl.Compile(unrolled); !sameCircuit(c, again) {
				t.Errorf("%.400q and its statements without loops have different circuits", textOf(list))
			}
		}
		programs, outputs = programs+1, outputs+countOf(unrolled, isOut)
	}
	if programs < 1000 || large < 90 || outputs < 4000 {
		t.Errorf("%d programs with %d outputs and %d that are too large were tried", programs, outputs, large)
	}
}

// The circuit of the beginning of a program is the beginning of its circuit.
func TestCompileBeginnings(t *testing.T) {
	for seed := range 60 {
		list := unrolledOf(madeProgram(seed))
		list = list[:min(len(list), maxStmts)]
		whole := checkCompiled(t, list)
		for length := range list {
			c := checkCompiled(t, list[:length])
			if !slices.Equal(c.Gates, whole.Gates[:len(c.Gates)]) || !slices.Equal(c.Outs, whole.Outs[:len(c.Outs)]) {
				t.Errorf("the first %d statements of %.400q have %s", length, textOf(list), briefCircuit(c))
			}
		}
	}
}

// Programs of exactly MaxUnrolled statements of each kind, and of one more: the
// largest circuits.
func TestCompileLargestPrograms(t *testing.T) {
	kinds := []impl.Stmt{numberTo(1, 9), inputOf(2, 4, 3), muxTo(0, 0, 1, 2), outOf(1)}
	for op := impl.OpAdd; op <= impl.OpEqual; op++ {
		kinds = append(kinds, binaryTo(op, 1, 1, 2))
	}
	for _, x := range kinds {
		full := looped(8, slices.Repeat([]impl.Stmt{x}, 15))
		c := checkCompiled(t, full)
		checkSameOutputs(t, full, inputSets()...)
		if x.Op == impl.OpMul && len(c.Gates) != mostCompiled || len(c.Gates) > mostCompiled {
			t.Errorf("%+v has a circuit of %d gates", x, len(c.Gates))
		}
		for _, other := range []impl.Stmt{x, outOf(0), numberTo(0, 1)} {
			checkNotCompiled(t, append([]impl.Stmt{other}, full...))
			checkNotCompiled(t, append(slices.Clone(full), other))
			nested := looped(5, looped(4, looped(3, []impl.Stmt{x, other})))
			checkSameOutputs(t, nested, madeInputs(1))
			checkNotCompiled(t, append(slices.Clone(nested), other))
		}
		last := slices.Concat(looped(7, slices.Repeat([]impl.Stmt{x}, 16)), []impl.Stmt{inputTo(1, 0), inputTo(2, 1), x, x, x, x, outOf(0), outOf(1)})
		checkSameOutputs(t, last, append(inputSets(), madeInputs(2))...)
		checkNotCompiled(t, append(last, x))
	}
}

// Lists that are too long or too large, and some that are not.
func TestCompileLimits(t *testing.T) {
	for length := range maxStmts + 5 {
		for _, x := range []impl.Stmt{outOf(0), inputTo(0, 2), binaryTo(impl.OpSub, 0, 0, 1)} {
			list := slices.Repeat([]impl.Stmt{x}, length)
			checkCompiles(t, list)
			for _, times := range []int{1, 3, 8} {
				checkCompiles(t, slices.Concat([]impl.Stmt{inputTo(0, 4)}, looped(times, list), []impl.Stmt{outOf(0)}))
			}
		}
	}
	for _, text := range []string{"888o)))", "888x)))", "88oo))", "456o)))", "456o)))x", "o456o)))", "456x)))o", "8xxxxxxxxxxxxxxx)", "8xxxxxxxxxxxxxxo)o", "888)))", "8xxxxxxxxxxxxxxx)8)"} {
		checkCompiles(t, placed(text))
	}
}

// Lists that are no programs have the zero Circuit, with outputs or without.
func TestCompileNoPrograms(t *testing.T) {
	for _, text := range notProgramTexts {
		checkNotCompiled(t, placed(text))
	}
	whole := []impl.Stmt{inputTo(0, 1), outOf(0), loopOf(2), sumTo(1, 0, 1), outOf(1), loopEnd, numberTo(0, 6), outOf(0)}
	checkCompiles(t, whole)
	wrong := []impl.Stmt{loopOf(2), loopEnd}
	for _, f := range forms {
		for field := range 5 {
			for _, number := range fieldNumbers {
				if numbers := withNumber(f.middle(), field, number); !f.accepts(numbers) {
					wrong = append(wrong, statement(f.op, numbers))
				}
			}
		}
	}
	for _, op := range notOps {
		wrong = append(wrong, impl.Stmt{Op: op})
	}
	for _, x := range wrong {
		checkNotCompiled(t, []impl.Stmt{x})
		for position := range len(whole) + 1 {
			checkNotCompiled(t, slices.Insert(slices.Clone(whole), position, x))
		}
	}
}

// definedRun is the definition of what a valid circuit gives for valid inputs.
func definedRun(c impl.Circuit, inputs [][]int) []int {
	values, bits := []int{}, inputBitsOf(inputs)
	for _, g := range c.Gates {
		values = append(values, gateResult(g, values, bits))
	}
	words := []int{}
	for group := range slices.Chunk(valuesAt(values, c.Outs), wordWires) {
		words = append(words, numberOn(group))
	}
	return words
}

// Circuits of gates of all kinds, whose outputs are any of their wires, also more
// outputs than there are gates.
func TestRunCircuitOfMadeCircuits(t *testing.T) {
	for seed := range 1000 {
		c, inputs := madeCircuit(seed, 120), madeInputs(seed)
		if count := len(c.Gates); count > 0 {
			c.Outs = []int{}
			for place := range seed % 40 {
				c.Outs = append(c.Outs, int(mixWord(uint32(seed*40+place)+9)>>8)%count)
			}
		} else {
			c.Outs = nil
		}
		for _, inputs := range append(inputSets(), inputs) {
			if len(c.Outs)%4 == 0 {
				checkRunOf(t, c, inputs, definedRun(c, inputs))
			} else {
				checkNoRunOf(t, c, inputs)
			}
		}
	}
}

// All numbers of outputs: those that are not divisible by 4 are rejected.
func TestRunCircuitOfAllNumbersOfOutputs(t *testing.T) {
	gates, inputs := mixedCircuit().Gates, madeInputs(6)
	for _, count := range append(countsFrom(0, 100), 6000, 6001, 8000, 8002, 8003) {
		outs := []int{}
		for place := range count {
			outs = append(outs, place*place%len(gates))
		}
		c := impl.Circuit{Gates: gates, Outs: outs}
		if count%4 == 0 {
			checkRunOf(t, c, inputs, definedRun(c, inputs))
		} else {
			checkNoRunOf(t, c, inputs)
		}
	}
	// Without outputs there are no words, also without gates.
	for _, c := range []impl.Circuit{{}, {Gates: []impl.Gate{}, Outs: []int{}}, circuitOf(constGate(1)), circuitOf(gates...), largeCircuit(maxGates)} {
		for _, inputs := range inputSets() {
			checkRunOf(t, c, inputs, nil)
		}
		checkNoRunOf(t, c, nil)
	}
}

// The largest circuit is run, and one gate more is too many.
func TestRunCircuitOfManyGates(t *testing.T) {
	for _, count := range []int{4, 1000, maxGates - 1, maxGates, maxGates + 1, maxGates + 4} {
		c := impl.Circuit{Gates: largeCircuit(count).Gates, Outs: []int{0, count - 1, count / 2, 1, 2, 2, count - 2, 3}}
		for _, inputs := range inputSets() {
			if count <= maxGates {
				checkRunOf(t, c, inputs, definedRun(c, inputs))
			} else {
				checkNoRunOf(t, c, inputs)
			}
		}
	}
}

// Circuits that are not valid, whether the number of their outputs is divisible
// by 4 or not.
func TestRunCircuitOfInvalidCircuits(t *testing.T) {
	for _, c := range wrongCircuits() {
		checkNoRunOf(t, c, madeInputs(1))
		four := impl.Circuit{Gates: c.Gates, Outs: slices.Repeat(c.Outs, 4)}
		checkNoRunOf(t, four, madeInputs(2))
		checkNoRunOf(t, four, nil)
	}
	for place := range 8 {
		for _, wire := range []int{-1, 11, 12, maxGates, math.MinInt64, math.MaxInt64} {
			checkNoRunOf(t, impl.Circuit{Gates: mixedCircuit().Gates, Outs: withNumber(make([]int, 8), place, wire)}, madeInputs(3))
		}
	}
}

// Inputs that are not valid are rejected, whether the circuit reads them or not.
func TestRunCircuitOfInvalidInputs(t *testing.T) {
	circuits := []impl.Circuit{
		{}, circuitOf(constGate(1)), {Gates: []impl.Gate{constGate(1)}, Outs: []int{0, 0, 0, 0}}, {Gates: []impl.Gate{inputGate(79)}, Outs: []int{0, 0, 0, 0}},
		{Gates: mixedCircuit().Gates, Outs: []int{1, 2, 3, 4, 5, 6, 7, 8}}, mixedCircuit(), circuitOf(notGate(0)), checkCompiled(t, setsProgram(31, 7)),
	}
	for _, inputs := range wrongInputs() {
		for _, c := range circuits {
			checkNoRunOf(t, c, inputs)
		}
	}
}

// What InputBits and WordsOf return is new memory, and they write neither into
// their lists nor behind them.
func TestBitsAndWordsAreNew(t *testing.T) {
	memory, inputLists, inputs := guardedInputs()
	given, listsGiven := slices.Clone(memory), cloneInputs(inputLists)
	want := inputBitsOf(inputs)
	first, second := impl.InputBits(inputs), impl.InputBits(inputs)
	overwrite(first)
	if !slices.Equal(second, want) || !slices.Equal(memory, given) || !equalInputs(inputLists, listsGiven) {
		t.Errorf("the bits %v share memory, or the inputs were changed to %v", second, memory)
	}
	checkInputBits(t, inputLists, nil)
	overwrite(memory)
	if !slices.Equal(second, want) {
		t.Errorf("the bits changed with the inputs to %v", second)
	}
	for _, count := range []int{0, 1, 4, 5, 8, maxBits} {
		guarded := slices.Concat([]int{7}, madeBits(9)[:count], []int{1, 1, 1, 1, 2, 2, 2, 2})
		before := slices.Clone(guarded)
		bits := guarded[1 : 1+count]
		first, second := impl.WordsOf(bits), impl.WordsOf(bits)
		words := slices.Clone(second)
		overwrite(first)
		if !slices.Equal(second, words) || !slices.Equal(guarded, before) {
			t.Errorf("the words %v share memory, or the bits were changed to %v", second, guarded)
		}
		overwrite(guarded)
		if !slices.Equal(second, words) {
			t.Errorf("the words changed with the bits to %v", second)
		}
	}
}

// The lists of a circuit are new memory, each its own, and Compile writes neither
// into its list nor behind it, where what is there does not count.
func TestCompiledIsNew(t *testing.T) {
	lists := [][]impl.Stmt{nil, {outOf(0)}, {inputTo(0, 2), outOf(0), outOf(1)}, setsProgram(3, 31, 8), looped(3, setsProgram(9)), looped(8, []impl.Stmt{outOf(0), muxTo(0, 1, 2, 0)})}
	for _, list := range lists {
		guarded := slices.Concat([]impl.Stmt{outOf(3)}, list, []impl.Stmt{outOf(0), loopEnd, {}})
		before := slices.Clone(guarded)
		given := guarded[1 : 1+len(list)]
		want := compiledOf(list)
		first := checkCompiled(t, given)
		second := checkCompiled(t, given)
		overwrite(first.Outs)
		if !slices.Equal(first.Gates, want.Gates) {
			t.Errorf("the gates and outputs of %q share memory", textOf(list))
		}
		overwriteGates(first.Gates)
		if !sameCircuit(second, want) || !slices.Equal(guarded, before) {
			t.Errorf("the circuit of %q shares memory, or the list was changed to %s", textOf(list), brief(guarded))
		}
		for i := range guarded {
			guarded[i] = impl.Stmt{Op: -9}
		}
		if !sameCircuit(second, want) {
			t.Errorf("the circuit of %q changed with its list", textOf(list))
		}
		checkCompiled(t, list)
	}
	for _, list := range [][]impl.Stmt{{loopOf(2)}, {loopEnd}, {{}}, slices.Repeat([]impl.Stmt{outOf(0)}, maxStmts+1)} {
		guarded := slices.Concat([]impl.Stmt{outOf(3)}, list, []impl.Stmt{loopEnd, outOf(0)})
		checkNotCompiled(t, guarded[1:1+len(list)])
	}
}

// The words that RunCircuit returns are new memory, and it writes neither into
// its lists nor behind them.
func TestRunCircuitResultsAreNew(t *testing.T) {
	circuits := []impl.Circuit{{}, {Gates: mixedCircuit().Gates, Outs: countsFrom(0, 7)}, mixedCircuit(), checkCompiled(t, setsProgram(3, 31, 8)), {Gates: mixedCircuit().Gates, Outs: []int{0, 1, 2, 11}}}
	for _, c := range circuits {
		gates, numbers, guarded, _ := guardedCircuit(c)
		memory, inputLists, inputs := guardedInputs()
		gatesGiven, numbersGiven, memoryGiven, listsGiven := slices.Clone(gates), slices.Clone(numbers), slices.Clone(memory), cloneInputs(inputLists)
		first, _ := impl.RunCircuit(guarded, inputs)
		second, ok := impl.RunCircuit(guarded, inputs)
		want := slices.Clone(second)
		if fits := validCircuit(c) && len(c.Outs)%4 == 0; ok != fits || fits && !slices.Equal(want, definedRun(c, inputs)) {
			t.Errorf("RunCircuit of %s = %v, %v", briefCircuit(c), want, ok)
		}
		overwrite(first)
		if !slices.Equal(second, want) || !slices.Equal(gates, gatesGiven) || !slices.Equal(numbers, numbersGiven) || !slices.Equal(memory, memoryGiven) || !equalInputs(inputLists, listsGiven) {
			t.Errorf("the outputs of %s share memory, or the lists were changed to %v, %v and %v", briefCircuit(c), gates, numbers, memory)
		}
		overwriteGates(gates)
		overwrite(numbers)
		overwrite(memory)
		if !slices.Equal(second, want) {
			t.Errorf("the outputs of %s changed with the lists to %v", briefCircuit(c), second)
		}
	}
}

// The same list can be that of several parties.
func TestCompileOfSharedInputs(t *testing.T) {
	shared := []int{6, 11, 0, 15}
	inputs := [][]int{shared, shared, shared, shared, shared}
	checkInputBits(t, inputs, slices.Repeat([]int{0, 1, 1, 0, 1, 1, 0, 1, 0, 0, 0, 0, 1, 1, 1, 1}, maxParties))
	for seed := range 60 {
		if list := madeProgram(seed); len(unrolledOf(list)) <= maxUnrolled {
			checkSameOutputs(t, list, inputs)
		}
	}
}

// The same arguments have the same results again, whatever was called between.
func TestCompileAgain(t *testing.T) {
	whole := parsed(t, "input r2 p3 1, loop 3, out r0, add r0 r0 r1, sub r1 r1 r2, end, out r0")
	inputs := withInput(sameInputs(9), 3, 1, 6)
	for range 10 {
		for _, list := range [][]impl.Stmt{{loopOf(2)}, {{}}, {inputTo(0, 4), outOf(0)}, setsProgram(31, 31, 31), slices.Repeat([]impl.Stmt{inputTo(0, 1)}, maxStmts)} {
			c, _ := impl.Compile(list)
			overwrite(c.Outs)
			overwriteGates(c.Gates)
			impl.RunCircuit(c, inputs)
			impl.InputBits(nil)
			overwrite(impl.InputBits(madeInputs(4)))
			overwrite(impl.WordsOf(madeBits(4)))
			checkRunOf(t, checkCompiled(t, whole), inputs, []int{0, 0, 10, 14})
			checkGates(t, "out r3", "0 0 0 0", 0, 1, 2, 3)
			checkWordsOf(t, []int{1, 0, 1, 0}, []int{5})
			checkInputBits(t, sameInputs(0), bitsAt())
		}
	}
}
