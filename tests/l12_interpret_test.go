package tests

import (
	"fmt"
	"math"
	"slices"
	"strings"
	"testing"

	"loop.example/g00979/impl"
)

// maxNumber is the greatest number of a register.
const maxNumber = 15

// notNumbers are no numbers of a register, also some whose low bits are one.
var notNumbers = slices.DeleteFunc(slices.Clone(fieldNumbers), func(n int) bool { return n >= 0 && n <= maxNumber })

// numberTo, inputOf and binaryTo return statements with all fields that they
// use.
func numberTo(dst int, number int) impl.Stmt {
	return impl.Stmt{Op: impl.OpConst, Dst: dst, N: number}
}

func inputOf(dst int, party int, number int) impl.Stmt {
	return impl.Stmt{Op: impl.OpInput, Dst: dst, A: party, N: number}
}

func binaryTo(op int, dst int, a int, b int) impl.Stmt {
	return impl.Stmt{Op: op, Dst: dst, A: a, B: b}
}

// inputsBy returns the inputs that a rule has for each party and number.
func inputsBy(rule func(party int, number int) int) [][]int {
	inputs := [][]int{}
	for party := range maxParties {
		numbers := []int{}
		for number := range maxInputs {
			numbers = append(numbers, rule(party, number))
		}
		inputs = append(inputs, numbers)
	}
	return inputs
}

func sameInputs(n int) [][]int { return inputsBy(func(int, int) int { return n }) }

// inputSets are such that no two places have the same number in all of them.
func inputSets() [][][]int {
	return [][][]int{
		sameInputs(0),
		sameInputs(maxNumber),
		inputsBy(func(party int, number int) int { return party*maxInputs + number - party/4*16 }),
		inputsBy(func(party int, number int) int { return party*3 + number }),
		inputsBy(func(party int, number int) int { return maxNumber - party - number*3 }),
	}
}

// madeInputs returns inputs that only the seed determines.
func madeInputs(seed int) [][]int {
	return inputsBy(func(party int, number int) int {
		return int(mixWord(uint32(seed*32+party*maxInputs+number)+77)>>9) % 16
	})
}

func cloneInputs(inputs [][]int) [][]int {
	clone := slices.Clone(inputs)
	for party := range clone {
		clone[party] = slices.Clone(clone[party])
	}
	return clone
}

func equalInputs(a [][]int, b [][]int) bool { return slices.EqualFunc(a, b, slices.Equal) }

// withInput returns inputs that have another number at one place.
func withInput(inputs [][]int, party int, number int, n int) [][]int {
	changed := cloneInputs(inputs)
	changed[party][number] = n
	return changed
}

// wrongInputs returns inputs that are not valid: a number that is none at each
// place, other counts of lists, and other counts of numbers in each list.
func wrongInputs() [][][]int {
	right := inputSets()[2]
	wrong := [][][]int{nil, {}, make([][]int, maxParties), {nil, nil, {}, {}, nil}, {slices.Concat(right...)}}
	for party := range maxParties {
		for number := range maxInputs {
			for _, n := range notNumbers {
				wrong = append(wrong, withInput(right, party, number, n))
			}
		}
		for count := range 3 * maxInputs {
			if count != maxInputs {
				changed := cloneInputs(right)
				changed[party] = make([]int, count)
				wrong = append(wrong, changed)
			}
		}
		changed := cloneInputs(right)
		changed[party] = nil
		wrong = append(wrong, changed, slices.Delete(cloneInputs(right), party, party+1))
		// As many numbers as there should be, but one of them in another list.
		changed = cloneInputs(right)
		other := (party + 1) % maxParties
		changed[party], changed[other] = changed[party][1:], append(changed[other], 0)
		wrong = append(wrong, changed)
	}
	for count := range 3*maxParties + 1 {
		if count != maxParties {
			wrong = append(wrong, slices.Repeat([][]int{{1, 2, 3, 4}}, count))
		}
	}
	return append(wrong, slices.Repeat([][]int{{1, 2, 3, 4}}, 256+maxParties), slices.Repeat([][]int{{1, 2, 3, 4, 5}}, maxInputs))
}

// states are valid; their registers differ, or are all at one end.
func states() []impl.State {
	return []impl.State{
		{Regs: make([]int, maxRegs)},
		{Regs: []int{1, 2, 3, 4, 5, 6, 7, 8}},
		{Regs: []int{15, 14, 13, 12, 11, 10, 9, 8}, Outs: []int{0, 15}},
		{Regs: []int{9, 4, 15, 0, 6, 11, 2, 13}, Outs: []int{5}},
		{Regs: slices.Repeat([]int{maxNumber}, maxRegs), Outs: countsFrom(0, maxNumber)},
	}
}

// wrongStates returns states that are not valid: a number that is none in each
// register and output, and other counts of registers.
func wrongStates() []impl.State {
	wrong := []impl.State{{}, {Regs: []int{}, Outs: []int{}}, {Outs: []int{1, 2, 3, 4, 5, 6, 7, 8}}, {Regs: make([]int, 0, maxRegs)}, {Regs: make([]int, maxRegs-1, maxRegs)}}
	for _, s := range states() {
		for _, n := range notNumbers {
			for place := range s.Regs {
				wrong = append(wrong, impl.State{Regs: withNumber(s.Regs, place, n), Outs: s.Outs})
			}
			for place := range s.Outs {
				wrong = append(wrong, impl.State{Regs: s.Regs, Outs: withNumber(s.Outs, place, n)})
			}
			wrong = append(wrong, impl.State{Regs: s.Regs, Outs: append(slices.Clone(s.Outs), n)})
		}
		for _, count := range append(countsFrom(0, 20), 40, 255, 256, 256+maxRegs, 65536+maxRegs) {
			if count != maxRegs {
				wrong = append(wrong, impl.State{Regs: make([]int, count), Outs: s.Outs})
			}
		}
	}
	return wrong
}

func cloneState(s impl.State) impl.State {
	return impl.State{Regs: slices.Clone(s.Regs), Outs: slices.Clone(s.Outs)}
}

func sameState(a impl.State, b impl.State) bool {
	return slices.Equal(a.Regs, b.Regs) && slices.Equal(a.Outs, b.Outs)
}

// countedOn returns the number that is some steps behind n, where 0 is behind 15.
func countedOn(n int, steps int) int {
	for range steps {
		if n++; n > maxNumber {
			n = 0
		}
	}
	return n
}

// resultOf is the definition of an operation: sums and products are counted, a
// difference is what makes a with b, and bits are taken one by one.
func resultOf(op int, a int, b int) int {
	result := 0
	switch op {
	case impl.OpAdd:
		result = countedOn(a, b)
	case impl.OpSub:
		for countedOn(result, b) != a {
			result++
		}
	case impl.OpMul:
		for range a {
			result = countedOn(result, b)
		}
	case impl.OpAnd, impl.OpXor:
		ones := map[int]int{impl.OpAnd: 2, impl.OpXor: 1}[op]
		for _, bit := range []int{1, 2, 4, 8} {
			if a/bit%2+b/bit%2 == ones {
				result += bit
			}
		}
	case impl.OpLess:
		if slices.Contains(countsFrom(0, b-1), a) {
			result = 1
		}
	case impl.OpEqual:
		if b-a == 0 {
			result = 1
		}
	}
	return result
}

// isBinary reports whether the statement is an operation, from OpAdd to OpEqual.
func isBinary(op int) bool { return slices.Contains([]int{3, 4, 5, 6, 7, 8, 9}, op) }

// afterStmt is the definition of the state after a valid statement.
func afterStmt(s impl.State, x impl.Stmt, inputs [][]int) impl.State {
	after := cloneState(s)
	switch {
	case x.Op == impl.OpConst:
		after.Regs[x.Dst] = x.N
	case x.Op == impl.OpInput:
		after.Regs[x.Dst] = inputs[x.A][x.N]
	case isBinary(x.Op):
		after.Regs[x.Dst] = resultOf(x.Op, s.Regs[x.A], s.Regs[x.B])
	case x.Op == impl.OpMux:
		from := []int{x.C, x.B}[s.Regs[x.A]%2]
		after.Regs[x.Dst] = s.Regs[from]
	case isOut(x):
		after.Outs = append(after.Outs, s.Regs[x.A])
	}
	return after
}

// checkStateAfter checks the state after a statement, and that the one before
// it and the inputs stay as they are.
func checkStateAfter(t *testing.T, s impl.State, x impl.Stmt, inputs [][]int, want impl.State) {
	t.Helper()
	before, given := cloneState(s), cloneInputs(inputs)
	if got := impl.StepState(s, x, inputs); !sameState(got, want) {
		t.Errorf("StepState of %.300s with %+v and %.300s = %.300s; want %.300s", fmt.Sprint(before), x, fmt.Sprint(given), fmt.Sprint(got), fmt.Sprint(want))
	}
	if !sameState(s, before) || !equalInputs(inputs, given) {
		t.Errorf("StepState with %+v changed %.300s and %.300s to %.300s and %.300s", x, fmt.Sprint(before), fmt.Sprint(given), fmt.Sprint(s), fmt.Sprint(inputs))
	}
}

// checkStateStays checks that a statement leaves a state unchanged.
func checkStateStays(t *testing.T, s impl.State, x impl.Stmt, inputs [][]int) {
	t.Helper()
	checkStateAfter(t, s, x, inputs, cloneState(s))
}

// checkResult checks the result of an operation, alone and in a statement.
func checkResult(t *testing.T, op int, a int, b int, want int) {
	t.Helper()
	if got := impl.Operate(op, a, b); got != want {
		t.Errorf("Operate(%d, %d, %d) = %d; want %d", op, a, b, got, want)
	}
	s := impl.State{Regs: []int{a, b, 3, 3, 3, 3, 3, 3}}
	checkStateAfter(t, s, binaryTo(op, 5, 0, 1), sameInputs(7), impl.State{Regs: withNumber(s.Regs, 5, want)})
}

func TestOperate(t *testing.T) {
	cases := []struct{ op, a, b, want int }{
		{impl.OpAdd, 0, 0, 0},
		{impl.OpAdd, 3, 5, 8},
		{impl.OpAdd, 15, 0, 15},
		{impl.OpAdd, 8, 7, 15},
		{impl.OpAdd, 8, 8, 0},
		{impl.OpAdd, 15, 1, 0},
		{impl.OpAdd, 15, 15, 14},
		{impl.OpSub, 0, 0, 0},
		{impl.OpSub, 5, 2, 3},
		{impl.OpSub, 15, 15, 0},
		{impl.OpSub, 15, 0, 15},
		// Below zero.
		{impl.OpSub, 0, 1, 15},
		{impl.OpSub, 2, 5, 13},
		{impl.OpSub, 0, 15, 1},
		{impl.OpSub, 14, 15, 15},
		{impl.OpSub, 1, 9, 8},
		{impl.OpSub, 7, 8, 15},
		{impl.OpMul, 0, 15, 0},
		{impl.OpMul, 1, 15, 15},
		{impl.OpMul, 3, 5, 15},
		{impl.OpMul, 4, 4, 0},
		{impl.OpMul, 5, 5, 9},
		{impl.OpMul, 15, 15, 1},
		{impl.OpMul, 15, 14, 2},
		{impl.OpMul, 8, 6, 0},
		{impl.OpAnd, 12, 10, 8},
		{impl.OpAnd, 15, 9, 9},
		{impl.OpAnd, 5, 10, 0},
		{impl.OpXor, 12, 10, 6},
		{impl.OpXor, 15, 9, 6},
		{impl.OpXor, 7, 7, 0},
		{impl.OpLess, 2, 5, 1},
		{impl.OpLess, 5, 2, 0},
		{impl.OpLess, 5, 5, 0},
		{impl.OpLess, 0, 15, 1},
		{impl.OpLess, 15, 0, 0},
		{impl.OpLess, 7, 8, 1},
		{impl.OpEqual, 5, 5, 1},
		{impl.OpEqual, 0, 0, 1},
		{impl.OpEqual, 15, 15, 1},
		{impl.OpEqual, 5, 4, 0},
		{impl.OpEqual, 0, 15, 0},
	}
	for _, c := range cases {
		checkResult(t, c.op, c.a, c.b, c.want)
		if result := resultOf(c.op, c.a, c.b); result != c.want {
			t.Errorf("the definition of %d has %d for %d and %d; want %d", c.op, result, c.a, c.b, c.want)
		}
	}
}

// All operations on all pairs of numbers.
func TestOperateOfAllNumbers(t *testing.T) {
	for op := impl.OpAdd; op <= impl.OpEqual; op++ {
		for a := range maxNumber + 1 {
			for b := range maxNumber + 1 {
				checkResult(t, op, a, b, resultOf(op, a, b))
			}
		}
	}
}

func checkNoResult(t *testing.T, op int, a int, b int) {
	t.Helper()
	if got := impl.Operate(op, a, b); got != -1 {
		t.Errorf("Operate(%d, %d, %d) = %d", op, a, b, got)
	}
}

// Numbers that are out of the range, on the left, on the right and on both sides.
func TestOperateOfOtherNumbers(t *testing.T) {
	for op := impl.OpAdd; op <= impl.OpEqual; op++ {
		for _, n := range append(countsFrom(-40, -1), append(countsFrom(16, 60), notNumbers...)...) {
			for a := range maxNumber + 1 {
				checkNoResult(t, op, a, n)
				checkNoResult(t, op, n, a)
			}
			for _, other := range []int{-1, 16, n, math.MinInt64, math.MaxInt64} {
				checkNoResult(t, op, n, other)
				checkNoResult(t, op, other, n)
			}
		}
	}
}

// Every op that is no operation on two registers, those of the other statements
// included.
func TestOperateOfOtherOps(t *testing.T) {
	others := []int{impl.OpConst, impl.OpInput, impl.OpMux, impl.OpOut, impl.OpLoop, impl.OpEnd}
	for _, op := range slices.Concat(others, notOps, countsFrom(-300, 2), countsFrom(10, 300)) {
		for a := range maxNumber + 1 {
			for b := range maxNumber + 1 {
				checkNoResult(t, op, a, b)
			}
		}
		for _, n := range notNumbers {
			checkNoResult(t, op, n, 1)
			checkNoResult(t, op, 1, n)
			checkNoResult(t, op, n, n)
		}
	}
}

func TestStateNew(t *testing.T) {
	s := impl.StateNew()
	if len(s.Regs) != maxRegs || !slices.Equal(s.Regs, make([]int, maxRegs)) || len(s.Outs) != 0 {
		t.Errorf("StateNew() = %v", s)
	}
	if !impl.StateOk(s) {
		t.Error("the new state is not valid")
	}
}

func checkStateOk(t *testing.T, s impl.State, want bool) {
	t.Helper()
	if got := impl.StateOk(s); got != want {
		t.Errorf("StateOk of %.300s = %v", fmt.Sprint(s), got)
	}
}

func TestStateOk(t *testing.T) {
	for _, s := range states() {
		checkStateOk(t, s, true)
		for n := -50; n <= 50; n++ {
			fits := n >= 0 && n <= maxNumber
			for place := range s.Regs {
				checkStateOk(t, impl.State{Regs: withNumber(s.Regs, place, n), Outs: s.Outs}, fits)
			}
			for place := range s.Outs {
				checkStateOk(t, impl.State{Regs: s.Regs, Outs: withNumber(s.Outs, place, n)}, fits)
			}
			checkStateOk(t, impl.State{Regs: s.Regs, Outs: append(slices.Clone(s.Outs), n)}, fits)
			checkStateOk(t, impl.State{Regs: s.Regs, Outs: append([]int{n}, s.Outs...)}, fits)
			checkStateOk(t, impl.State{Regs: slices.Repeat([]int{n}, maxRegs), Outs: []int{n, n}}, fits)
		}
		checkStateOk(t, impl.State{Regs: s.Regs}, true)
		checkStateOk(t, impl.State{Regs: s.Regs, Outs: []int{}}, true)
	}
	for _, s := range wrongStates() {
		checkStateOk(t, s, false)
	}
}

// A state has MaxRegs registers, and any number of outputs, also more than a
// program can have.
func TestStateOkOfOtherCounts(t *testing.T) {
	for count := range 300 {
		for _, n := range []int{0, 1, maxNumber} {
			checkStateOk(t, impl.State{Regs: slices.Repeat([]int{n}, count)}, count == maxRegs)
			checkStateOk(t, impl.State{Regs: slices.Repeat([]int{n}, count), Outs: make([]int, maxRegs)}, count == maxRegs)
			checkStateOk(t, impl.State{Regs: make([]int, maxRegs), Outs: slices.Repeat([]int{n}, count)}, true)
			checkStateOk(t, impl.State{Regs: make([]int, maxRegs), Outs: append(slices.Repeat([]int{n}, count), 16)}, false)
			checkStateOk(t, impl.State{Regs: make([]int, maxRegs), Outs: append([]int{-1}, slices.Repeat([]int{n}, count)...)}, false)
		}
	}
}

func checkInputs(t *testing.T, inputs [][]int, want bool) {
	t.Helper()
	if got := impl.InputsOk(inputs); got != want {
		t.Errorf("InputsOk of %.300s = %v", fmt.Sprint(inputs), got)
	}
}

func TestInputsOk(t *testing.T) {
	for _, inputs := range inputSets() {
		checkInputs(t, inputs, true)
		for party := range maxParties {
			for number := range maxInputs {
				for n := -50; n <= 50; n++ {
					checkInputs(t, withInput(inputs, party, number, n), n >= 0 && n <= maxNumber)
				}
			}
		}
	}
	for n := -50; n <= 50; n++ {
		checkInputs(t, sameInputs(n), n >= 0 && n <= maxNumber)
	}
	for _, inputs := range wrongInputs() {
		checkInputs(t, inputs, false)
	}
	shared := []int{4, 3, 2, 1}
	checkInputs(t, [][]int{shared, shared, shared, shared, shared}, true)
}

// All counts of lists with all counts of numbers in them.
func TestInputsOkOfOtherCounts(t *testing.T) {
	for lists := range 4 * maxParties {
		for numbers := range 4 * maxInputs {
			inputs := [][]int{}
			for range lists {
				inputs = append(inputs, make([]int, numbers))
			}
			checkInputs(t, inputs, lists == maxParties && numbers == maxInputs)
		}
	}
}

func TestStepState(t *testing.T) {
	before := impl.State{Regs: []int{9, 4, 15, 0, 6, 11, 2, 13}, Outs: []int{7, 0}}
	inputs := [][]int{{3, 1, 4, 1}, {5, 9, 2, 6}, {0, 15, 7, 8}, {10, 11, 12, 13}, {14, 1, 0, 2}}
	cases := []struct {
		x    impl.Stmt
		dst  int
		want int
	}{
		{numberTo(0, 0), 0, 0},
		{numberTo(7, 15), 7, 15},
		{numberTo(3, 8), 3, 8},
		{inputOf(0, 0, 0), 0, 3},
		{inputOf(1, 0, 3), 1, 1},
		{inputOf(7, 4, 3), 7, 2},
		{inputOf(2, 2, 1), 2, 15},
		{inputOf(5, 1, 2), 5, 2},
		{inputOf(5, 3, 0), 5, 10},
		{binaryTo(impl.OpAdd, 0, 0, 1), 0, 13},
		{binaryTo(impl.OpAdd, 3, 0, 5), 3, 4},
		{binaryTo(impl.OpSub, 0, 0, 1), 0, 5},
		{binaryTo(impl.OpSub, 1, 0, 1), 1, 5},
		{binaryTo(impl.OpSub, 0, 1, 0), 0, 11},
		{binaryTo(impl.OpSub, 6, 3, 7), 6, 3},
		{binaryTo(impl.OpSub, 6, 6, 6), 6, 0},
		{binaryTo(impl.OpMul, 4, 4, 5), 4, 2},
		{binaryTo(impl.OpMul, 2, 2, 2), 2, 1},
		{binaryTo(impl.OpAnd, 6, 4, 5), 6, 2},
		{binaryTo(impl.OpXor, 5, 4, 5), 5, 13},
		{binaryTo(impl.OpXor, 7, 7, 7), 7, 0},
		{binaryTo(impl.OpLess, 2, 1, 0), 2, 1},
		{binaryTo(impl.OpLess, 2, 0, 1), 2, 0},
		{binaryTo(impl.OpEqual, 0, 0, 0), 0, 1},
		{binaryTo(impl.OpEqual, 0, 0, 7), 0, 0},
		// Register A is odd.
		{muxTo(0, 0, 1, 2), 0, 4},
		{muxTo(3, 5, 6, 7), 3, 2},
		{muxTo(1, 2, 1, 3), 1, 4},
		{muxTo(3, 7, 7, 4), 3, 13},
		// Register A is even.
		{muxTo(0, 1, 1, 2), 0, 15},
		{muxTo(1, 1, 0, 2), 1, 15},
		{muxTo(4, 4, 5, 6), 4, 2},
		{muxTo(6, 3, 0, 6), 6, 2},
		{muxTo(2, 6, 2, 3), 2, 0},
	}
	for _, c := range cases {
		want := cloneState(before)
		want.Regs[c.dst] = c.want
		checkStateAfter(t, before, c.x, inputs, want)
	}
	for a, number := range before.Regs {
		checkStateAfter(t, before, outOf(a), inputs, impl.State{Regs: before.Regs, Outs: []int{7, 0, number}})
	}
	for times := 1; times <= maxLoop; times++ {
		checkStateStays(t, before, loopOf(times), inputs)
	}
	checkStateStays(t, before, loopEnd, inputs)
}

// All valid statements: the register and the output that a statement names are
// as the definition says, and all others stay as they are.
func TestStepStateOfAllStatements(t *testing.T) {
	for _, s := range states() {
		for _, x := range allStatements() {
			inputs := inputSets()[(x.Dst+x.A)%5]
			checkStateAfter(t, s, x, inputs, afterStmt(s, x, inputs))
		}
	}
}

// All inputs of all parties, each of which is another number than the rest.
func TestStepStateOfAllInputs(t *testing.T) {
	s := states()[3]
	for party := range maxParties {
		for number := range maxInputs {
			for dst := range maxRegs {
				x := inputOf(dst, party, number)
				for n := range maxNumber + 1 {
					inputs := withInput(sameInputs(maxNumber-n), party, number, n)
					checkStateAfter(t, s, x, inputs, impl.State{Regs: withNumber(s.Regs, dst, n), Outs: s.Outs})
				}
				for _, inputs := range inputSets() {
					checkStateAfter(t, s, x, inputs, impl.State{Regs: withNumber(s.Regs, dst, inputs[party][number]), Outs: s.Outs})
				}
			}
		}
	}
}

// All operations on all pairs of numbers, where Dst is one of the registers that
// are read, or both are the same, or neither.
func TestStepStateOfAllNumbers(t *testing.T) {
	inputs := inputSets()[2]
	for op := impl.OpAdd; op <= impl.OpEqual; op++ {
		for a := range maxNumber + 1 {
			for b := range maxNumber + 1 {
				s := impl.State{Regs: []int{6, a, 1, b, 14, 9, a, b}, Outs: []int{b, a}}
				for _, dst := range []int{0, 1, 3, 6} {
					want := cloneState(s)
					want.Regs[dst] = resultOf(op, a, b)
					checkStateAfter(t, s, binaryTo(op, dst, 1, 3), inputs, want)
					want.Regs[dst] = resultOf(op, b, a)
					checkStateAfter(t, s, binaryTo(op, dst, 3, 1), inputs, want)
					want.Regs[dst] = resultOf(op, a, a)
					checkStateAfter(t, s, binaryTo(op, dst, 1, 1), inputs, want)
				}
			}
		}
	}
}

// OpMux with every number in register A: only its lowest bit chooses, and Dst
// can be any of the registers that are read.
func TestStepStateOfMux(t *testing.T) {
	inputs := inputSets()[3]
	for n := range maxNumber + 1 {
		for a := range maxRegs {
			s := impl.State{Regs: withNumber(countsFrom(3, 10), a, n), Outs: []int{n}}
			b, c := (a+1)%maxRegs, (a+6)%maxRegs
			chosen := s.Regs[c]
			if n%2 == 1 {
				chosen = s.Regs[b]
			}
			for dst := range maxRegs {
				checkStateAfter(t, s, muxTo(dst, a, b, c), inputs, impl.State{Regs: withNumber(s.Regs, dst, chosen), Outs: s.Outs})
				checkStateAfter(t, s, muxTo(dst, a, c, c), inputs, impl.State{Regs: withNumber(s.Regs, dst, s.Regs[c]), Outs: s.Outs})
				checkStateAfter(t, s, muxTo(dst, a, a, a), inputs, impl.State{Regs: withNumber(s.Regs, dst, n), Outs: s.Outs})
			}
		}
	}
}

// OpOut appends each register behind all outputs so far, however many there are.
func TestStepStateOfOutputs(t *testing.T) {
	for _, s := range states() {
		for a := range maxRegs {
			for count := range 20 {
				outs := slices.Repeat([]int{count % 16}, count*count)
				got := impl.State{Regs: s.Regs, Outs: outs}
				checkStateAfter(t, got, outOf(a), sameInputs(1), impl.State{Regs: s.Regs, Outs: slices.Concat(outs, []int{s.Regs[a]})})
			}
		}
	}
	s, want := states()[1], []int{}
	for count := range 300 {
		a := count * count % maxRegs
		want = append(want, s.Regs[a])
		s = impl.StepState(s, outOf(a), sameInputs(2))
		if !slices.Equal(s.Outs, want) {
			t.Fatalf("%d outputs are %v; want %v", count+1, s.Outs, want)
		}
	}
}

// A statement that is not valid changes nothing: one of no Op, or with a wrong
// number in one field or in two.
func TestStepStateOfInvalidStatements(t *testing.T) {
	inputs := inputSets()[2]
	for _, s := range states() {
		checkStateStays(t, s, impl.Stmt{}, inputs)
		for _, form := range forms {
			for _, numbers := range [][]int{form.least(), form.middle(), form.most()} {
				for _, op := range notOps {
					checkStateStays(t, s, statement(op, numbers), inputs)
				}
				for field := range numbers {
					for _, number := range fieldNumbers {
						changed := withNumber(numbers, field, number)
						for _, wrong := range [][]int{changed, withNumber(changed, (field+1)%5, -1), withNumber(changed, (field+3)%5, maxRegs)} {
							if x := statement(form.op, wrong); form.accepts(wrong) {
								checkStateAfter(t, s, x, inputs, afterStmt(s, x, inputs))
							} else {
								checkStateStays(t, s, x, inputs)
							}
						}
					}
				}
			}
		}
	}
}

// kindsOfStmt has some valid statements of each kind.
func kindsOfStmt() []impl.Stmt {
	kinds := []impl.Stmt{}
	for _, form := range forms {
		for _, numbers := range [][]int{form.least(), form.middle(), form.most()} {
			kinds = append(kinds, statement(form.op, numbers))
		}
	}
	return kinds
}

// A state that is not valid stays as it is, also if the statement is not valid
// or would set the register that is wrong.
func TestStepStateOfInvalidStates(t *testing.T) {
	inputs := inputSets()[2]
	for _, s := range wrongStates() {
		for _, x := range kindsOfStmt() {
			checkStateStays(t, s, x, inputs)
		}
		for register := range maxRegs {
			checkStateStays(t, s, numberTo(register, 3), inputs)
			checkStateStays(t, s, outOf(register), inputs)
		}
		checkStateStays(t, s, impl.Stmt{}, inputs)
		checkStateStays(t, s, impl.Stmt{Op: impl.OpOut, A: len(s.Regs)}, inputs)
		checkStateStays(t, s, impl.Stmt{Op: impl.OpOut, A: -1}, inputs)
		checkStateStays(t, s, outOf(0), nil)
	}
}

// With inputs that are not valid, every state stays as it is, also if the
// statement reads no input, or another one than that which is wrong.
func TestStepStateOfInvalidInputs(t *testing.T) {
	for _, inputs := range wrongInputs() {
		for _, s := range []impl.State{states()[1], states()[3], {}, {Regs: []int{16}}} {
			for _, x := range kindsOfStmt() {
				checkStateStays(t, s, x, inputs)
			}
			for party := range maxParties {
				for number := range maxInputs {
					checkStateStays(t, s, inputOf(party, party, number), inputs)
				}
			}
			checkStateStays(t, s, impl.Stmt{}, inputs)
		}
	}
}

// endOf returns the place of the end of the loop at a place.
func endOf(list []impl.Stmt, loop int) int {
	for open, place := 0, loop; ; place++ {
		if isLoop(list[place]) {
			open++
		} else if isEnd(list[place]) {
			open--
		}
		if open == 0 {
			return place
		}
	}
}

// stateBehind is the definition of the state behind the statements of a program:
// a loop goes through its statements so many times, one after the other.
func stateBehind(s impl.State, list []impl.Stmt, inputs [][]int) impl.State {
	for place := 0; place < len(list); place++ {
		if !isLoop(list[place]) {
			s = afterStmt(s, list[place], inputs)
			continue
		}
		end := endOf(list, place)
		for range list[place].N {
			s = stateBehind(s, list[place+1:end], inputs)
		}
		place = end
	}
	return s
}

// outputsOf is the definition of the outputs of a program.
func outputsOf(list []impl.Stmt, inputs [][]int) []int {
	return stateBehind(impl.State{Regs: make([]int, maxRegs)}, list, inputs).Outs
}

// checkRun checks the outputs of a program, and that its list and the inputs
// stay as they are.
func checkRun(t *testing.T, list []impl.Stmt, inputs [][]int, want []int) {
	t.Helper()
	before, given := slices.Clone(list), cloneInputs(inputs)
	if got, ok := impl.RunProgram(list, inputs); !slices.Equal(got, want) || !ok {
		t.Errorf("RunProgram of %.400q with %v = %v, %v; want %v", textOf(before), given, got, ok, want)
	}
	if !slices.Equal(list, before) || !equalInputs(inputs, given) {
		t.Errorf("RunProgram of %.400q with %v changed them to %s and %v", textOf(before), given, brief(list), inputs)
	}
}

func checkNoRun(t *testing.T, list []impl.Stmt, inputs [][]int) {
	t.Helper()
	if got, ok := impl.RunProgram(list, inputs); len(got) != 0 || ok {
		t.Errorf("RunProgram of %s with %.300s = %v, %v", brief(list), fmt.Sprint(inputs), got, ok)
	}
}

// unrollable is the definition of a list of valid statements that is a program
// and small enough to be unrolled.
func unrollable(list []impl.Stmt) bool {
	depth := nestingOf(bracketsOf(list))
	return len(list) <= maxStmts && depth >= 0 && depth <= maxDepth && len(unrolledOf(list)) <= maxUnrolled
}

// checkRuns checks a list, program or not, with all sets of inputs.
func checkRuns(t *testing.T, list []impl.Stmt) {
	t.Helper()
	fits := unrollable(list)
	for _, inputs := range inputSets() {
		if fits {
			checkRun(t, list, inputs, outputsOf(list, inputs))
		} else {
			checkNoRun(t, list, inputs)
		}
	}
}

// parsed returns the program of a text in which commas separate the statements.
func parsed(t *testing.T, text string) []impl.Stmt {
	t.Helper()
	list, number := impl.ParseProgram(strings.ReplaceAll(text, ", ", "\n"))
	if number != 0 {
		t.Fatalf("%q is no program", text)
	}
	return list
}

func TestRunProgram(t *testing.T) {
	inputs := [][]int{{3, 1, 4, 1}, {5, 9, 2, 6}, {0, 15, 7, 8}, {10, 11, 12, 13}, {14, 1, 0, 2}}
	cases := []struct {
		text string
		want []int
	}{
		{"out r0", []int{0}},
		{"out r7, out r3", []int{0, 0}},
		{"const r2 9, out r2, out r1, out r2", []int{9, 0, 9}},
		{"input r0 p0 0, out r0", []int{3}},
		{"input r7 p4 3, out r7", []int{2}},
		{"input r0 p0 0, input r1 p1 0, add r0 r0 r1, out r0, out r1", []int{8, 5}},
		{"input r0 p0 0, input r1 p1 0, sub r0 r0 r1, out r0, sub r0 r0 r1, out r0", []int{14, 9}},
		{"const r1 1, sub r0 r0 r1, out r0", []int{15}},
		{"input r0 p1 1, input r1 p3 3, mul r2 r0 r1, out r2", []int{5}},
		{"input r0 p1 1, input r1 p3 3, less r2 r0 r1, less r3 r1 r0, equal r4 r0 r0, equal r5 r0 r1, out r2, out r3, out r4, out r5", []int{1, 0, 1, 0}},
		{"input r0 p1 1, input r1 p3 3, and r2 r0 r1, xor r3 r0 r1, out r2, out r3", []int{9, 4}},
		{"input r0 p1 1, input r1 p3 3, less r2 r0 r1, mux r3 r2 r1 r0, out r3", []int{13}},
		{"input r0 p1 1, input r1 p3 2, less r2 r1 r0, mux r3 r2 r1 r0, out r3", []int{9}},
		{"out r0, input r0 p0 2, out r0, const r0 7, out r0, input r0 p2 1, out r0", []int{0, 4, 7, 15}},
		{"loop 8, end", nil},
		{"loop 3, out r0, end", []int{0, 0, 0}},
		{"input r0 p0 0, input r1 p1 0, loop 2, add r0 r0 r1, end, out r0", []int{13}},
		{"const r1 1, loop 8, out r0, add r0 r0 r1, end, out r0", []int{0, 1, 2, 3, 4, 5, 6, 7, 8}},
		{"const r1 3, loop 8, add r0 r0 r1, out r0, end", []int{3, 6, 9, 12, 15, 2, 5, 8}},
		{"const r1 3, loop 7, sub r0 r0 r1, out r0, end", []int{13, 10, 7, 4, 1, 14, 11}},
		{"const r0 1, const r1 3, loop 5, mul r0 r0 r1, out r0, end", []int{3, 9, 11, 1, 3}},
		{"const r1 1, loop 2, loop 3, add r0 r0 r1, end, out r0, loop 2, sub r0 r0 r1, end, end, out r0", []int{3, 4, 2}},
		{"const r1 1, loop 2, loop 2, loop 2, add r0 r0 r1, end, end, end, out r0", []int{8}},
		{"const r1 1, loop 4, add r2 r0 r1, mux r0 r1 r1 r1, mux r1 r2 r2 r2, out r1, end", []int{1, 2, 3, 5}},
	}
	for _, c := range cases {
		list := parsed(t, c.text)
		checkRun(t, list, inputs, c.want)
		if outputs := outputsOf(list, inputs); !slices.Equal(outputs, c.want) {
			t.Errorf("the definition has %v for %q; want %v", outputs, c.text, c.want)
		}
	}
}

// Programs without outputs have none, and no programs have none either, but
// only with the former the result is true.
func TestRunProgramWithoutOutputs(t *testing.T) {
	for _, list := range [][]impl.Stmt{
		nil, {}, make([]impl.Stmt, 0, 9), {constTo(0)}, {inputTo(0, 0)}, {inputTo(0, 0), sumTo(1, 0, 0)}, {loopOf(8), loopEnd}, {loopOf(1), inputTo(3, 4), loopEnd},
		slices.Repeat([]impl.Stmt{inputTo(0, 0)}, maxStmts), looped(8, slices.Repeat([]impl.Stmt{muxTo(0, 1, 2, 3)}, 15)),
	} {
		for _, inputs := range inputSets() {
			checkRun(t, list, inputs, nil)
		}
		for _, inputs := range wrongInputs() {
			checkNoRun(t, list, inputs)
		}
	}
}

// Every statement, between others that set the registers and put them out, also
// in a loop.
func TestRunProgramOfAllStatements(t *testing.T) {
	before := []impl.Stmt{numberTo(0, 11), inputOf(1, 1, 2), inputOf(2, 4, 0), numberTo(3, 6), inputOf(4, 0, 3), inputOf(5, 3, 1), numberTo(6, 1)}
	after := []impl.Stmt{outOf(0), outOf(1), outOf(2), outOf(3), outOf(4), outOf(5), outOf(6), outOf(7)}
	inputs := madeInputs(12)
	for _, x := range allStatements() {
		if isLoop(x) || isEnd(x) {
			continue
		}
		list := slices.Concat(before, []impl.Stmt{x}, after)
		checkRun(t, list, inputs, outputsOf(list, inputs))
		list = slices.Concat(before, looped(3, []impl.Stmt{x, outOf(x.Dst)}), after)
		checkRun(t, list, inputs, outputsOf(list, inputs))
	}
}

// All lists of some statements up to a length: inputs, operations that read and
// overwrite each other's registers, outputs, loops and ends.
func TestRunProgramOfAllShortLists(t *testing.T) {
	letters := []impl.Stmt{inputTo(0, 0), inputTo(1, 3), binaryTo(impl.OpSub, 0, 0, 1), binaryTo(impl.OpXor, 1, 1, 0), muxTo(1, 0, 2, 1), outOf(0), outOf(1), loopOf(3), loopEnd}
	for length := range 6 {
		for number := range power(len(letters), length) {
			list := []impl.Stmt{}
			for _, digit := range digitsOf(len(letters), length, number) {
				list = append(list, letters[digit])
			}
			checkRuns(t, list)
		}
	}
}

// Long programs, with loops: each runs like its statements without loops, and
// so does each beginning of these, state by state.
func TestRunProgramOfMadePrograms(t *testing.T) {
	programs, large, outputs := 0, 0, 0
	for seed := range 4000 {
		list, inputs := madeProgram(seed), madeInputs(seed)
		unrolled := unrolledOf(list)
		if len(unrolled) > maxUnrolled {
			checkNoRun(t, list, inputs)
			large++
			continue
		}
		want := outputsOf(list, inputs)
		checkRun(t, list, inputs, want)
		if len(unrolled) <= maxStmts {
			checkRun(t, unrolled, inputs, want)
		}
		s := impl.StateNew()
		for _, x := range unrolled {
			next := afterStmt(s, x, inputs)
			checkStateAfter(t, s, x, inputs, next)
			s = next
		}
		if !slices.Equal(s.Outs, want) {
			t.Errorf("the steps of %.400q have the outputs %v; want %v", textOf(list), s.Outs, want)
		}
		programs, outputs = programs+1, outputs+len(want)
	}
	if programs < 2500 || large < 250 || outputs < 10000 {
		t.Errorf("%d programs with %d outputs and %d that are too large were tried", programs, outputs, large)
	}
}

// notProgramTexts are those of lists, with outputs or without, whose loops and
// ends do not match, are nested too deep, or have a wrong number of times.
var notProgramTexts = []string{
	"2", ")", ")2", "x)", "2x", "22)", "2))", "2)2", "222", ")))", "o)", "2o", "o2", ")o", "2o)2o", "2o))o", "oo(", "x2x", "x)x",
	"1111))))", "2222))))", "2222o))))", "o1111))))o", "0)", "0o)", "9)", "9o)", "20o))", "2o9))", "o0)", "o9)o",
}

// Lists that are no programs, with outputs or without.
func TestRunProgramNoPrograms(t *testing.T) {
	inputs := madeInputs(3)
	for _, text := range notProgramTexts {
		checkNoRun(t, placed(text), inputs)
	}
	whole := []impl.Stmt{inputTo(0, 1), outOf(0), loopOf(2), sumTo(1, 0, 1), outOf(1), loopEnd, numberTo(0, 6), outOf(0)}
	checkRuns(t, whole)
	wrong := []impl.Stmt{
		{}, {Op: -1}, {Op: impl.OpEnd + 1}, {Op: math.MinInt64}, {Op: math.MaxInt64}, {Op: impl.OpConst, N: 16}, {Op: impl.OpInput, A: maxParties},
		{Op: impl.OpInput, A: -1}, {Op: impl.OpInput, N: maxInputs}, {Op: impl.OpAdd, C: 1}, {Op: impl.OpMux, C: maxRegs}, {Op: impl.OpOut, A: -1},
		{Op: impl.OpOut, A: maxRegs}, {Op: impl.OpOut, Dst: 1}, {Op: impl.OpLoop}, {Op: impl.OpLoop, N: maxLoop + 1}, {Op: impl.OpEnd, N: 1},
		loopOf(2), loopEnd,
	}
	for _, x := range wrong {
		checkNoRun(t, []impl.Stmt{x}, inputs)
		for position := range len(whole) + 1 {
			checkNoRun(t, slices.Insert(slices.Clone(whole), position, x), inputs)
		}
	}
}

// Programs of every length, of outputs only or none, in loops and without: what
// is too long, or too large to be unrolled, has no outputs.
func TestRunProgramLimits(t *testing.T) {
	for length := range 2*maxStmts + 3 {
		for _, x := range []impl.Stmt{outOf(0), inputTo(0, 2), binaryTo(impl.OpSub, 0, 0, 1)} {
			list := slices.Repeat([]impl.Stmt{x}, length)
			checkRuns(t, list)
			for times := 1; times <= maxLoop; times++ {
				checkRuns(t, looped(times, list))
				checkRuns(t, slices.Concat([]impl.Stmt{inputTo(0, 4)}, looped(times, list), []impl.Stmt{outOf(0)}))
			}
		}
	}
	for _, text := range []string{"888o)))", "888x)))", "88oo))", "456o)))", "456o)))x", "o456o)))", "456x)))o", "8xxxxxxxxxxxxxxx)", "8xxxxxxxxxxxxxxo)o"} {
		checkRuns(t, placed(text))
	}
	full := slices.Concat([]impl.Stmt{loopOf(8)}, slices.Repeat([]impl.Stmt{outOf(1), inputTo(1, 3), outOf(0)}, 5), []impl.Stmt{loopEnd})
	for _, inputs := range inputSets() {
		checkRun(t, full, inputs, append([]int{0}, slices.Repeat([]int{0, inputs[3][3]}, 40)[:79]...))
		for _, x := range []impl.Stmt{outOf(0), numberTo(0, 1), inputTo(0, 0)} {
			checkNoRun(t, append([]impl.Stmt{x}, full...), inputs)
			checkNoRun(t, append(slices.Clone(full), x), inputs)
		}
	}
}

// Inputs that are not valid are rejected, whether the program reads them or not,
// and whether or not the list is a program.
func TestRunProgramOfInvalidInputs(t *testing.T) {
	reader := []impl.Stmt{}
	for party := range maxParties {
		for number := range maxInputs {
			reader = append(reader, inputOf(party, party, number), outOf(party))
		}
	}
	for _, inputs := range inputSets() {
		checkRun(t, reader, inputs, slices.Concat(inputs...))
	}
	for _, inputs := range wrongInputs() {
		for _, list := range [][]impl.Stmt{reader, reader[:2], nil, {outOf(0)}, {numberTo(0, 3), outOf(0)}, looped(8, []impl.Stmt{outOf(1)}), {loopEnd}, {{}}, looped(8, slices.Repeat([]impl.Stmt{outOf(0)}, 16))} {
			checkNoRun(t, list, inputs)
		}
	}
}

// withParties returns the inputs of the parties in the set from others, and all
// other inputs as they are.
func withParties(inputs [][]int, parties int, others [][]int) [][]int {
	changed := cloneInputs(inputs)
	for party := range maxParties {
		if parties>>party&1 == 1 {
			changed[party] = slices.Clone(others[party])
		}
	}
	return changed
}

// otherInputs returns inputs of which every number differs from the given one.
func otherInputs(inputs [][]int, seed int) [][]int {
	made := madeInputs(seed)
	return inputsBy(func(party int, number int) int { return (inputs[party][number] + 1 + made[party][number]%15) % 16 })
}

// checkIndependent checks that the outputs that do not depend on a set of
// parties are the same after the inputs of these were changed. It returns the
// number of these outputs, and the number of the others that were changed.
func checkIndependent(t *testing.T, list []impl.Stmt, inputs [][]int, parties int, others [][]int) (kept int, changed int) {
	t.Helper()
	deps, depsOk := impl.OutputDeps(list)
	first, firstOk := impl.RunProgram(list, inputs)
	after := withParties(inputs, parties, others)
	second, secondOk := impl.RunProgram(list, after)
	if !depsOk || !firstOk || !secondOk || len(first) != len(deps) || len(second) != len(deps) {
		t.Fatalf("%.400q has %v, %v and %v", textOf(list), deps, first, second)
	}
	for i, dep := range deps {
		switch {
		case dep&parties != 0:
			if first[i] != second[i] {
				changed++
			}
		case first[i] != second[i]:
			t.Errorf("output %d of %.400q depends on %d, but is %d with %v and %d with %v", i, textOf(list), dep, first[i], inputs, second[i], after)
		default:
			kept++
		}
	}
	return kept, changed
}

// Long programs, with loops: the inputs of each set of parties are changed.
func TestOutputsThatDoNotDepend(t *testing.T) {
	kept, changed := 0, 0
	for seed := range 1000 {
		list, inputs := madeProgram(seed), madeInputs(seed)
		if len(unrolledOf(list)) > maxUnrolled {
			continue
		}
		for parties := range allParties + 1 {
			k, c := checkIndependent(t, list, inputs, parties, otherInputs(inputs, seed+parties))
			kept, changed = kept+k, changed+c
		}
	}
	if kept < 100000 || changed < 30000 {
		t.Errorf("%d outputs that do not depend on the changed inputs, and %d that were changed, were tried", kept, changed)
	}
}

// Each output of a program for each of some sets of parties is the same for all
// numbers of all inputs of another party.
func TestOutputsForAllNumbers(t *testing.T) {
	for _, sets := range [][]int{{0, 31}, {1, 2, 4, 8}, {16, 30, 5}, {7, 24, 9}, {21, 10, 31}, {29, 27, 3}} {
		list := setsProgram(sets...)
		for _, inputs := range append(inputSets(), madeInputs(1), madeInputs(2)) {
			for party := range maxParties {
				for number := range maxInputs {
					for n := range maxNumber + 1 {
						checkIndependent(t, list, inputs, 1<<party, withInput(inputs, party, number, n))
					}
				}
			}
		}
	}
}

// An input does not change an output if it is overwritten, or read behind it, or
// reaches it only in a later repetition of a loop. Of all sets of parties whose
// inputs are changed, these are the outputs that are kept and that are changed.
func TestOutputsOfSomePrograms(t *testing.T) {
	cases := []struct {
		text          string
		kept, changed int
	}{
		{"input r0 p0 0, const r0 3, out r0", 32, 0},
		{"out r0, input r0 p0 0, out r0", 48, 16},
		{"input r0 p0 0, input r0 p1 0, out r0", 16, 16},
		{"input r0 p0 0, mux r1 r0 r2 r3, sub r1 r4 r5, out r1", 32, 0},
		{"input r0 p0 0, out r0, input r1 p1 0, out r1", 32, 32},
		{"input r0 p0 0, loop 3, out r1, add r1 r2 r2, add r2 r0 r3, end", 80, 16},
		{"input r0 p0 0, loop 4, out r1, mux r1 r2 r2 r2, add r2 r0 r3, end", 96, 32},
		{"loop 2, out r0, input r0 p0 0, loop 2, out r0, input r0 p2 3, end, end", 112, 80},
	}
	for _, c := range cases {
		list, inputs := parsed(t, c.text), sameInputs(5)
		kept, changed := 0, 0
		for parties := range allParties + 1 {
			k, c := checkIndependent(t, list, inputs, parties, sameInputs(10))
			kept, changed = kept+k, changed+c
		}
		if kept != c.kept || changed != c.changed {
			t.Errorf("%q: %d outputs were kept and %d changed; want %d and %d", c.text, kept, changed, c.kept, c.changed)
		}
	}
}

// After every statement, the registers that do not depend on a party are the
// same after its inputs were changed, and so are the outputs.
func TestRegistersThatDoNotDepend(t *testing.T) {
	same, different := 0, 0
	for seed := range 300 {
		list, inputs := madeProgram(seed), madeInputs(seed)
		unrolled := unrolledOf(list)
		for party := range maxParties {
			bit := 1 << party
			changed := withParties(inputs, bit, otherInputs(inputs, seed))
			f, left, right := impl.FlowNew(), impl.StateNew(), impl.StateNew()
			for place, x := range unrolled[:min(len(unrolled), maxUnrolled)] {
				f, left, right = impl.FlowStep(f, x), impl.StepState(left, x, inputs), impl.StepState(right, x, changed)
				lefts, rights := append(slices.Clone(left.Regs), left.Outs...), append(slices.Clone(right.Regs), right.Outs...)
				for i, dep := range append(slices.Clone(f.Regs), f.Outs...) {
					switch {
					case lefts[i] == rights[i]:
						same++
					case dep&bit == 0:
						t.Errorf("number %d after statement %d of %.400q depends on %d, but was changed by %d", i, place, textOf(list), dep, party)
					default:
						different++
					}
				}
			}
		}
	}
	if same < 100000 || different < 20000 {
		t.Errorf("%d numbers that are the same and %d that differ were tried", same, different)
	}
}

// guardedState returns a state whose lists are parts of one larger list, with
// numbers before, between and behind them.
func guardedState(count int) ([]int, impl.State) {
	memory := []int{}
	for place := range 60 {
		memory = append(memory, (place*5+3)%16)
	}
	return memory, impl.State{Regs: memory[3 : 3+count], Outs: memory[5+count : 9+count]}
}

// guardedInputs returns inputs whose lists are parts of one larger list, with
// numbers between and behind them. There are also lists behind the inputs.
func guardedInputs() (memory []int, lists [][]int, inputs [][]int) {
	memory = slices.Repeat([]int{7, 8, 9}, 20)
	for party := range maxParties + 2 {
		lists = append(lists, memory[party*6:party*6+maxInputs])
	}
	return memory, lists, lists[:maxParties]
}

// StepState writes neither into its lists nor behind them, and what it returns
// is new memory, also where nothing changes, and each list its own.
func TestStepStateResultIsNew(t *testing.T) {
	statements := append(kindsOfStmt(), impl.Stmt{}, impl.Stmt{Op: impl.OpOut, A: maxRegs})
	for _, x := range statements {
		for _, count := range []int{0, 1, maxRegs - 1, maxRegs, maxRegs + 1, 20} {
			memory, s := guardedState(count)
			given := slices.Clone(memory)
			inputMemory, inputLists, inputs := guardedInputs()
			inputsGiven, listsGiven := slices.Clone(inputMemory), cloneInputs(inputLists)
			first, second := impl.StepState(s, x, inputs), impl.StepState(s, x, inputs)
			want := cloneState(second)
			overwrite(first.Regs)
			overwrite(second.Outs)
			if !slices.Equal(first.Outs, want.Outs) || !slices.Equal(second.Regs, want.Regs) || !slices.Equal(memory, given) {
				t.Errorf("the state %v after %+v shares memory with %v or %v", first, x, second, memory)
			}
			third, fourth := impl.StepState(s, x, inputs), impl.StepState(s, x, nil)
			before := cloneState(s)
			overwrite(memory)
			if !sameState(third, want) || !sameState(fourth, before) {
				t.Errorf("the state after %+v changed with the one before it to %v or %v", x, third, fourth)
			}
			if !slices.Equal(inputMemory, inputsGiven) || !equalInputs(inputLists, listsGiven) {
				t.Errorf("the inputs after %+v are %v, and their memory is %v", x, inputLists, inputMemory)
			}
			overwrite(inputMemory)
			if !sameState(third, want) {
				t.Errorf("the state after %+v changed with the inputs to %v", x, third)
			}
		}
	}
	same := []int{1, 2, 3, 4, 5, 6, 7, 8}
	for _, x := range statements {
		after := impl.StepState(impl.State{Regs: same, Outs: same}, x, sameInputs(3))
		overwrite(after.Outs)
		if slices.Contains(after.Regs, -9) || slices.Contains(same, -9) {
			t.Errorf("the lists of a state after %+v share memory: %v, %v", x, after, same)
		}
	}
}

// The steps after a state do not change each other: two statements in turn after
// the same state, and the state of each goes on by itself.
func TestStepStateBranches(t *testing.T) {
	inputs, s := inputSets()[3], impl.StateNew()
	for _, x := range []impl.Stmt{numberTo(0, 1), numberTo(1, 2), outOf(0), outOf(1), outOf(0)} {
		s = impl.StepState(s, x, inputs)
	}
	left, right := impl.StepState(s, outOf(0), inputs), impl.StepState(s, outOf(1), inputs)
	for range 10 {
		left, right = impl.StepState(left, outOf(1), inputs), impl.StepState(right, outOf(0), inputs)
	}
	if !slices.Equal(s.Outs, []int{1, 2, 1}) || !slices.Equal(left.Outs[:5], []int{1, 2, 1, 1, 2}) || !slices.Equal(right.Outs[:5], []int{1, 2, 1, 2, 1}) {
		t.Errorf("the outputs are %v, %v and %v", s.Outs, left.Outs, right.Outs)
	}
}

func TestInterpretResultsAreNew(t *testing.T) {
	overwrite(impl.StateNew().Regs)
	overwrite(impl.StateNew().Outs)
	TestStateNew(t)
	inputs := madeInputs(8)
	for _, list := range [][]impl.Stmt{{outOf(0)}, {inputTo(0, 2), outOf(0), outOf(1)}, setsProgram(3, 31, 8), looped(8, []impl.Stmt{outOf(0), inputTo(0, 1)})} {
		want := outputsOf(list, inputs)
		first, _ := impl.RunProgram(list, inputs)
		second, _ := impl.RunProgram(list, inputs)
		overwrite(first)
		if !slices.Equal(second, want) {
			t.Errorf("the outputs of %q share memory: %v", textOf(list), second)
		}
		checkRun(t, list, inputs, want)
	}
}

// No function writes into its lists or behind them, and what is behind them does
// not count.
func TestInterpretFunctionsLeaveTheLists(t *testing.T) {
	lists := [][]impl.Stmt{nil, {outOf(0)}, {inputTo(0, 2), outOf(0), outOf(1)}, setsProgram(3, 31, 8), looped(3, setsProgram(9)), {loopOf(2)}, {loopEnd}, {{}}, slices.Repeat([]impl.Stmt{outOf(0)}, maxStmts+1)}
	for _, list := range lists {
		guarded := slices.Concat([]impl.Stmt{outOf(3)}, list, []impl.Stmt{outOf(0), loopEnd, {}})
		before := slices.Clone(guarded)
		memory, inputLists, inputs := guardedInputs()
		given, listsGiven := slices.Clone(memory), cloneInputs(inputLists)
		got, ok := impl.RunProgram(guarded[1:1+len(list)], inputs)
		if want := impl.ProgramOk(list); ok != want || want && !slices.Equal(got, outputsOf(list, inputs)) {
			t.Errorf("RunProgram of %s = %v, %v", brief(list), got, ok)
		}
		impl.RunProgram(guarded, inputs)
		checkInputs(t, inputs, true)
		checkInputs(t, inputLists, false)
		if !slices.Equal(guarded, before) || !slices.Equal(memory, given) || !equalInputs(inputLists, listsGiven) {
			t.Errorf("the lists were changed to %s, %v and %v", brief(guarded), inputLists, memory)
		}
	}
	memory, s := guardedState(maxRegs)
	given := slices.Clone(memory)
	memory[maxRegs+9] = 99
	checkStateOk(t, s, true)
	if memory[maxRegs+9] = given[maxRegs+9]; !slices.Equal(memory, given) {
		t.Errorf("StateOk changed the lists to %v", memory)
	}
}

// The same list can be that of several parties.
func TestRunProgramOfSharedInputs(t *testing.T) {
	shared := []int{6, 11, 0, 15}
	inputs := [][]int{shared, shared, shared, shared, shared}
	for seed := range 100 {
		if list := madeProgram(seed); len(unrolledOf(list)) <= maxUnrolled {
			checkRun(t, list, inputs, outputsOf(list, inputs))
		}
	}
}

// The same arguments have the same results again, whatever was called between.
func TestInterpretAgain(t *testing.T) {
	whole := parsed(t, "input r2 p3 1, loop 3, out r0, add r0 r0 r1, sub r1 r1 r2, end, out r0")
	inputs := withInput(sameInputs(9), 3, 1, 6)
	for range 20 {
		for _, list := range [][]impl.Stmt{{loopOf(2)}, {{}}, {inputTo(0, 4), outOf(0)}, setsProgram(31, 31, 31), slices.Repeat([]impl.Stmt{inputTo(0, 1)}, maxStmts)} {
			impl.RunProgram(list, madeInputs(4))
			impl.RunProgram(list, nil)
			impl.StepState(states()[2], outOf(3), madeInputs(5))
			impl.Operate(impl.OpSub, 3, 9)
			TestStateNew(t)
			checkRun(t, whole, inputs, []int{0, 0, 10, 14})
			checkStateAfter(t, states()[1], muxTo(0, 1, 2, 3), inputs, impl.State{Regs: []int{4, 2, 3, 4, 5, 6, 7, 8}})
			checkResult(t, impl.OpSub, 2, 5, 13)
		}
	}
}
