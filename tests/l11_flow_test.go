package tests

import (
	"fmt"
	"math"
	"slices"
	"testing"

	"loop.example/g00979/impl"
)

// allParties is the set of all parties, as a number with a bit for each.
const allParties = 1<<maxParties - 1

// loopEnd is the end of a loop; the functions that follow return the other
// statements.
var loopEnd = impl.Stmt{Op: impl.OpEnd}

func loopOf(times int) impl.Stmt { return impl.Stmt{Op: impl.OpLoop, N: times} }

func constTo(dst int) impl.Stmt { return impl.Stmt{Op: impl.OpConst, Dst: dst, N: 9} }

func inputTo(dst int, party int) impl.Stmt {
	return impl.Stmt{Op: impl.OpInput, Dst: dst, A: party, N: 3}
}

func sumTo(dst int, a int, b int) impl.Stmt {
	return impl.Stmt{Op: impl.OpAdd, Dst: dst, A: a, B: b}
}

func muxTo(dst int, a int, b int, c int) impl.Stmt {
	return impl.Stmt{Op: impl.OpMux, Dst: dst, A: a, B: b, C: c}
}

func outOf(a int) impl.Stmt { return impl.Stmt{Op: impl.OpOut, A: a} }

// flows are such that the registers differ: each has a bit of its own, or all
// bits but one, or the set of some parties, or bits of no party.
func flows() []impl.Flow {
	const far = math.MinInt64
	return []impl.Flow{
		{Regs: make([]int, maxRegs), Outs: []int{allParties}},
		{Regs: []int{1, 2, 4, 8, 16, 32, 64, 128}},
		{Regs: []int{-2, -3, -5, -9, -17, -33, -65, -129}, Outs: []int{0, -1}},
		{Regs: []int{31, 16, 0, 8, 3, 21, 4, 0}, Outs: []int{0, 31, 5}},
		{Regs: []int{far, math.MaxInt64, far + 1, 1 << 62, 1 << 32, 1 << 31, -1 << 32, 1<<32 - 1}, Outs: []int{far, math.MaxInt64, -1, 0, 6, 6}},
		{Regs: []int{31, 31, 31, 31, 31, 31, 31, 31}, Outs: countsFrom(-50, 150)},
	}
}

func cloneFlow(f impl.Flow) impl.Flow {
	return impl.Flow{Regs: slices.Clone(f.Regs), Outs: slices.Clone(f.Outs)}
}

func sameFlow(a impl.Flow, b impl.Flow) bool {
	return slices.Equal(a.Regs, b.Regs) && slices.Equal(a.Outs, b.Outs)
}

// afterStep is the definition of the flow after a valid statement; each bit of
// a number is on its own.
func afterStep(f impl.Flow, s impl.Stmt) impl.Flow {
	after := cloneFlow(f)
	if isOut(s) {
		after.Outs = append(after.Outs, f.Regs[s.A])
	}
	dst := forms[s.Op-1].writes(s)
	if dst < 0 {
		return after
	}
	after.Regs[dst] = 0
	for bit := range 64 {
		has := s.Op == impl.OpInput && s.A == bit
		for _, read := range forms[s.Op-1].reads(s) {
			has = has || f.Regs[read]>>bit&1 == 1
		}
		if has {
			after.Regs[dst] |= 1 << bit
		}
	}
	return after
}

// checkStep checks the flow after a statement, and that the flow before it
// stays as it is.
func checkStep(t *testing.T, f impl.Flow, s impl.Stmt, want impl.Flow) {
	t.Helper()
	before := cloneFlow(f)
	if got := impl.FlowStep(f, s); !sameFlow(got, want) {
		t.Errorf("FlowStep of %.300s with %+v = %.300s; want %.300s", fmt.Sprint(before), s, fmt.Sprint(got), fmt.Sprint(want))
	}
	if !sameFlow(f, before) {
		t.Errorf("FlowStep with %+v changed %.300s to %.300s", s, fmt.Sprint(before), fmt.Sprint(f))
	}
}

func checkUnchanged(t *testing.T, f impl.Flow, s impl.Stmt) {
	t.Helper()
	checkStep(t, f, s, cloneFlow(f))
}

func TestFlowNew(t *testing.T) {
	f := impl.FlowNew()
	if len(f.Regs) != maxRegs || !slices.Equal(f.Regs, make([]int, maxRegs)) || len(f.Outs) != 0 {
		t.Errorf("FlowNew() = %v", f)
	}
}

func TestFlowStep(t *testing.T) {
	before := impl.Flow{Regs: []int{1, 2, 4, 8, 16, 3, 0, 31}, Outs: []int{7, 0}}
	sets := []struct {
		s    impl.Stmt
		dst  int
		want int
	}{
		{impl.Stmt{Op: impl.OpConst}, 0, 0},
		{impl.Stmt{Op: impl.OpConst, Dst: 7, N: 15}, 7, 0},
		{impl.Stmt{Op: impl.OpConst, Dst: 6, N: 1}, 6, 0},
		{impl.Stmt{Op: impl.OpInput}, 0, 1},
		{impl.Stmt{Op: impl.OpInput, A: 4}, 0, 16},
		{impl.Stmt{Op: impl.OpInput, Dst: 7, A: 2}, 7, 4},
		{impl.Stmt{Op: impl.OpInput, Dst: 6, A: 1, N: 3}, 6, 2},
		{impl.Stmt{Op: impl.OpInput, Dst: 3, A: 3, N: 2}, 3, 8},
		{impl.Stmt{Op: impl.OpAdd, A: 0, B: 1}, 0, 3},
		{impl.Stmt{Op: impl.OpAdd, Dst: 6, A: 0, B: 4}, 6, 17},
		{impl.Stmt{Op: impl.OpSub, Dst: 7, A: 6, B: 6}, 7, 0},
		{impl.Stmt{Op: impl.OpMul, Dst: 3, A: 3, B: 3}, 3, 8},
		{impl.Stmt{Op: impl.OpAnd, Dst: 2, A: 1, B: 5}, 2, 3},
		{impl.Stmt{Op: impl.OpXor, Dst: 1, A: 7, B: 1}, 1, 31},
		{impl.Stmt{Op: impl.OpLess, Dst: 0, A: 6, B: 5}, 0, 3},
		{impl.Stmt{Op: impl.OpEqual, Dst: 4, A: 2, B: 4}, 4, 20},
		{impl.Stmt{Op: impl.OpMux, Dst: 5, A: 0, B: 1, C: 2}, 5, 7},
		{impl.Stmt{Op: impl.OpMux, Dst: 0, A: 6, B: 6, C: 4}, 0, 16},
		{impl.Stmt{Op: impl.OpMux, Dst: 0, A: 6, B: 4, C: 6}, 0, 16},
		{impl.Stmt{Op: impl.OpMux, Dst: 0, A: 4, B: 6, C: 6}, 0, 16},
		{impl.Stmt{Op: impl.OpMux, Dst: 2, A: 2, B: 2, C: 2}, 2, 4},
		{impl.Stmt{Op: impl.OpMux, Dst: 4, A: 4, B: 6, C: 0}, 4, 17},
	}
	for _, c := range sets {
		want := cloneFlow(before)
		want.Regs[c.dst] = c.want
		checkStep(t, before, c.s, want)
	}
	for a, number := range before.Regs {
		checkStep(t, before, outOf(a), impl.Flow{Regs: before.Regs, Outs: []int{7, 0, number}})
	}
	for times := 1; times <= maxLoop; times++ {
		checkUnchanged(t, before, loopOf(times))
	}
	checkUnchanged(t, before, loopEnd)
}

// All valid statements: the register and the output that a statement names are
// as the definition says, and all others stay as they are.
func TestFlowStepOfAllStatements(t *testing.T) {
	for _, f := range flows() {
		for _, s := range allStatements() {
			checkStep(t, f, s, afterStep(f, s))
		}
	}
}

// A constant clears every register and an input leaves only the bit of its
// party, whatever the register could depend on before.
func TestFlowStepClears(t *testing.T) {
	for _, f := range flows() {
		for dst := range maxRegs {
			for number := range 16 {
				if got := impl.FlowStep(f, impl.Stmt{Op: impl.OpConst, Dst: dst, N: number}); got.Regs[dst] != 0 {
					t.Errorf("after the constant %d register %d depends on %d", number, dst, got.Regs[dst])
				}
			}
			for party, want := range []int{1, 2, 4, 8, 16} {
				for number := range maxInputs {
					if got := impl.FlowStep(f, impl.Stmt{Op: impl.OpInput, Dst: dst, A: party, N: number}); got.Regs[dst] != want {
						t.Errorf("after the input %d of party %d register %d depends on %d", number, party, dst, got.Regs[dst])
					}
				}
			}
		}
	}
}

// A register that is overwritten no longer depends on what it held before,
// unless the statement that overwrites it also reads it.
func TestFlowStepOverwrites(t *testing.T) {
	start := flows()[1]
	for _, first := range allStatements() {
		dst := forms[first.Op-1].writes(first)
		if dst < 0 {
			continue
		}
		f := impl.FlowStep(start, first)
		held := f.Regs[dst]
		a, b := (dst+1)%maxRegs, (dst+3)%maxRegs
		both := f.Regs[a] | f.Regs[b]
		cases := []struct {
			second impl.Stmt
			want   int
		}{
			{constTo(dst), 0},
			{inputTo(dst, (first.A+1)%maxParties), 1 << ((first.A + 1) % maxParties)},
			{inputTo(dst, (first.A+4)%maxParties), 1 << ((first.A + 4) % maxParties)},
			{sumTo(dst, a, b), both},
			{sumTo(dst, a, a), f.Regs[a]},
			{muxTo(dst, b, a, b), both},
			{sumTo(dst, a, dst), held | f.Regs[a]},
			{sumTo(dst, dst, b), held | f.Regs[b]},
			{muxTo(dst, dst, dst, dst), held},
			{muxTo(dst, a, b, dst), held | both},
		}
		for _, c := range cases {
			want := cloneFlow(f)
			want.Regs[dst] = c.want
			checkStep(t, f, c.second, want)
		}
	}
}

// A statement that is not valid changes nothing: one of no Op, or with a wrong
// number in one field or in two.
func TestFlowStepOfInvalidStatements(t *testing.T) {
	for _, f := range flows() {
		for _, op := range notOps {
			for _, form := range forms {
				for _, numbers := range [][]int{form.least(), form.middle(), form.most()} {
					checkUnchanged(t, f, statement(op, numbers))
				}
			}
		}
		for _, form := range forms {
			for _, numbers := range [][]int{form.least(), form.middle(), form.most()} {
				for field := range numbers {
					for _, number := range fieldNumbers {
						checkStepOfForm(t, f, form, withNumber(numbers, field, number))
						checkStepOfForm(t, f, form, withNumber(withNumber(numbers, field, number), (field+1)%5, -1))
						checkStepOfForm(t, f, form, withNumber(withNumber(numbers, field, number), (field+3)%5, maxRegs))
					}
				}
			}
		}
	}
}

// checkStepOfForm checks the flow after a statement of the form, valid or not.
func checkStepOfForm(t *testing.T, f impl.Flow, form form, numbers []int) {
	t.Helper()
	if s := statement(form.op, numbers); form.accepts(numbers) {
		checkStep(t, f, s, afterStep(f, s))
	} else {
		checkUnchanged(t, f, s)
	}
}

// A flow that has not exactly MaxRegs registers stays as it is, whatever the
// statement, and whether or not it has the registers that the statement names.
func TestFlowStepOfWrongFlows(t *testing.T) {
	for _, count := range append(countsFrom(0, 40), 255, 256, 256+maxRegs, 65536+maxRegs) {
		regs := make([]int, count)
		for i := range regs {
			regs[i] = i%allParties + 1
		}
		for _, outs := range [][]int{nil, {3}, {0, 31, -1}} {
			f := impl.Flow{Regs: regs, Outs: outs}
			for _, form := range forms {
				for _, numbers := range [][]int{form.least(), form.middle(), form.most()} {
					if s := statement(form.op, numbers); count == maxRegs {
						checkStep(t, f, s, afterStep(f, s))
					} else {
						checkUnchanged(t, f, s)
					}
				}
			}
			checkUnchanged(t, f, impl.Stmt{})
			checkUnchanged(t, f, impl.Stmt{Op: impl.OpOut, A: count})
			checkUnchanged(t, f, impl.Stmt{Op: impl.OpOut, A: -1})
		}
	}
	for _, f := range []impl.Flow{{}, {Regs: []int{}}, {Outs: []int{5}}, {Regs: make([]int, 0, maxRegs)}, {Regs: make([]int, maxRegs-1, maxRegs)}} {
		for _, s := range []impl.Stmt{outOf(0), constTo(0), inputTo(0, 0), sumTo(0, 0, 0), muxTo(7, 7, 7, 7), loopOf(1), loopEnd} {
			checkUnchanged(t, f, s)
		}
	}
}

// origins finds on whose inputs registers can depend, from the statements that
// set them back to the inputs.
type origins struct {
	list  []impl.Stmt
	known map[[2]int]int
}

// of is the definition of the parties on which a register can depend before the
// statement at a place: those of all that the last statement that sets it reads.
func (o origins) of(place int, register int) int {
	key := [2]int{place, register}
	if parties, ok := o.known[key]; ok {
		return parties
	}
	parties := 0
	for before := place - 1; before >= 0; before-- {
		s := o.list[before]
		if forms[s.Op-1].writes(s) != register {
			continue
		}
		if s.Op == impl.OpInput {
			parties = 1 << s.A
		}
		for _, read := range forms[s.Op-1].reads(s) {
			parties |= o.of(before, read)
		}
		break
	}
	o.known[key] = parties
	return parties
}

// depsOf is the definition of the parties of all outputs of a program.
func depsOf(list []impl.Stmt) []int {
	o := origins{list: unrolledOf(list), known: map[[2]int]int{}}
	deps := []int{}
	for place, s := range o.list {
		if isOut(s) {
			deps = append(deps, o.of(place, s.A))
		}
	}
	return deps
}

// checkDeps checks the dependencies of the outputs of a program, and that they
// are accepted.
func checkDeps(t *testing.T, list []impl.Stmt, want []int) {
	t.Helper()
	if got, ok := impl.OutputDeps(list); !slices.Equal(got, want) || !ok {
		t.Errorf("OutputDeps of %.400q = %v, %v; want %v", textOf(list), got, ok, want)
	}
	checkAllowed(t, list, want, true)
}

func checkAllowed(t *testing.T, list []impl.Stmt, allowed []int, want bool) {
	t.Helper()
	if got := impl.FlowOk(list, allowed); got != want {
		t.Errorf("FlowOk of %.400q with %v = %v", textOf(list), allowed, got)
	}
}

// checkExactly checks that a program is accepted for its dependencies and for
// more, but not for less, nor for another number of outputs.
func checkExactly(t *testing.T, list []impl.Stmt, deps []int) {
	t.Helper()
	checkDeps(t, list, deps)
	for place, parties := range deps {
		for party := range maxParties {
			bit := 1 << party
			// One party more is accepted, and one less is not, whatever other
			// bits there are.
			fits := parties&bit == 0
			checkAllowed(t, list, withNumber(deps, place, parties^bit), fits)
			checkAllowed(t, list, withNumber(deps, place, math.MaxInt64&^bit), fits)
		}
		checkAllowed(t, list, withNumber(deps, place, allParties), true)
		checkAllowed(t, list, withNumber(deps, place, math.MaxInt64), true)
		for _, negative := range []int{-1, math.MinInt64, math.MinInt64 | parties, -allParties - 1 | parties} {
			checkAllowed(t, list, withNumber(deps, place, negative), false)
		}
		checkAllowed(t, list, slices.Delete(slices.Clone(deps), place, place+1), false)
	}
	for _, further := range []int{0, allParties, math.MaxInt64, -1} {
		checkAllowed(t, list, append(slices.Clone(deps), further), false)
		checkAllowed(t, list, append([]int{further}, deps...), false)
	}
}

// checkNoDeps checks that a list has no dependencies, and that it is accepted
// for none.
func checkNoDeps(t *testing.T, list []impl.Stmt) {
	t.Helper()
	if got, ok := impl.OutputDeps(list); len(got) != 0 || ok {
		t.Errorf("OutputDeps of %s = %v, %v", brief(list), got, ok)
	}
	allowed := []int{}
	for range 4 {
		if impl.FlowOk(list, allowed) {
			t.Errorf("FlowOk of %s with %v", brief(list), allowed)
		}
		allowed = append(allowed, math.MaxInt64)
	}
	outputs := countOf(list, isOut)
	for _, number := range []int{0, allParties, math.MaxInt64, -1} {
		if impl.FlowOk(list, slices.Repeat([]int{number}, outputs)) {
			t.Errorf("FlowOk of %s with %d outputs that depend on %d", brief(list), outputs, number)
		}
	}
}

// checkByDefinition checks the dependencies of a list, program or not.
func checkByDefinition(t *testing.T, list []impl.Stmt) {
	t.Helper()
	depth := nestingOf(bracketsOf(list))
	if len(list) > maxStmts || depth < 0 || depth > maxDepth || len(unrolledOf(list)) > maxUnrolled {
		checkNoDeps(t, list)
	} else {
		checkDeps(t, list, depsOf(list))
	}
}

func TestOutputDeps(t *testing.T) {
	cases := []struct {
		list []impl.Stmt
		want []int
	}{
		{[]impl.Stmt{outOf(0)}, []int{0}},
		{[]impl.Stmt{outOf(7), outOf(3)}, []int{0, 0}},
		{[]impl.Stmt{inputTo(0, 0)}, nil},
		{[]impl.Stmt{inputTo(0, 0), outOf(0)}, []int{1}},
		{[]impl.Stmt{inputTo(0, 4), outOf(0)}, []int{16}},
		{[]impl.Stmt{inputTo(0, 0), outOf(1)}, []int{0}},
		{[]impl.Stmt{outOf(0), inputTo(0, 0)}, []int{0}},
		{[]impl.Stmt{inputTo(2, 1), inputTo(3, 2), outOf(3), outOf(2), outOf(3)}, []int{4, 2, 4}},
		{[]impl.Stmt{inputTo(0, 0), inputTo(1, 1), sumTo(0, 0, 1), outOf(0), outOf(1)}, []int{3, 2}},
		{[]impl.Stmt{inputTo(0, 0), inputTo(1, 1), sumTo(2, 0, 1), outOf(0), outOf(1), outOf(2)}, []int{1, 2, 3}},
		{[]impl.Stmt{inputTo(0, 0), inputTo(1, 1), inputTo(2, 2), muxTo(3, 0, 1, 2), outOf(3)}, []int{7}},
		{[]impl.Stmt{inputTo(0, 0), inputTo(1, 1), inputTo(2, 2), muxTo(0, 2, 1, 2), outOf(0)}, []int{6}},
		// The result is always 0, but the dependency is that of the registers.
		{[]impl.Stmt{inputTo(0, 3), {Op: impl.OpXor, Dst: 0, A: 0, B: 0}, outOf(0)}, []int{8}},
		{[]impl.Stmt{inputTo(0, 3), constTo(1), {Op: impl.OpMul, Dst: 2, A: 0, B: 4}, outOf(2), outOf(1)}, []int{8, 0}},
		// Registers that are overwritten.
		{[]impl.Stmt{inputTo(0, 0), constTo(0), outOf(0)}, []int{0}},
		{[]impl.Stmt{inputTo(0, 0), outOf(0), constTo(0), outOf(0)}, []int{1, 0}},
		{[]impl.Stmt{inputTo(0, 0), inputTo(0, 1), outOf(0)}, []int{2}},
		{[]impl.Stmt{inputTo(0, 0), inputTo(1, 1), sumTo(0, 1, 1), outOf(0)}, []int{2}},
		{[]impl.Stmt{inputTo(0, 0), inputTo(1, 1), muxTo(0, 1, 2, 3), outOf(0)}, []int{2}},
		{[]impl.Stmt{inputTo(0, 0), sumTo(1, 0, 0), constTo(0), outOf(1), outOf(0)}, []int{1, 0}},
		{[]impl.Stmt{inputTo(0, 0), sumTo(1, 0, 0), inputTo(0, 2), outOf(1), sumTo(1, 0, 1), outOf(1), outOf(0)}, []int{1, 5, 4}},
		{[]impl.Stmt{inputTo(0, 0), inputTo(1, 4), sumTo(0, 0, 1), sumTo(1, 2, 3), outOf(0), outOf(1)}, []int{17, 0}},
		// Loops.
		{[]impl.Stmt{loopOf(8), loopEnd}, nil},
		{[]impl.Stmt{inputTo(0, 1), loopOf(3), outOf(0), loopEnd}, []int{2, 2, 2}},
		{[]impl.Stmt{loopOf(3), outOf(0), inputTo(0, 1), loopEnd}, []int{0, 2, 2}},
		{[]impl.Stmt{inputTo(0, 1), loopOf(3), outOf(0), constTo(0), loopEnd}, []int{2, 0, 0}},
		{[]impl.Stmt{inputTo(0, 0), inputTo(1, 1), loopOf(2), sumTo(0, 0, 1), loopEnd, outOf(0)}, []int{3}},
		{[]impl.Stmt{inputTo(2, 3), loopOf(1), sumTo(0, 0, 1), sumTo(1, 1, 2), loopEnd, outOf(0)}, []int{0}},
		{[]impl.Stmt{inputTo(2, 3), loopOf(2), sumTo(0, 0, 1), sumTo(1, 1, 2), loopEnd, outOf(0)}, []int{8}},
		{[]impl.Stmt{inputTo(2, 3), loopOf(4), outOf(0), sumTo(0, 0, 1), sumTo(1, 1, 2), loopEnd, outOf(0)}, []int{0, 0, 8, 8, 8}},
		{[]impl.Stmt{inputTo(0, 0), loopOf(2), loopOf(2), outOf(1), sumTo(1, 1, 0), loopEnd, constTo(1), inputTo(0, 2), loopEnd, outOf(1)}, []int{0, 1, 0, 4, 0}},
	}
	for _, c := range cases {
		checkExactly(t, c.list, c.want)
		if deps := depsOf(c.list); !slices.Equal(deps, c.want) {
			t.Errorf("the definition has %v for %q; want %v", deps, textOf(c.list), c.want)
		}
	}
}

// The empty list, and programs without outputs, have no dependencies, and are
// accepted for none.
func TestOutputDepsWithoutOutputs(t *testing.T) {
	for _, list := range [][]impl.Stmt{
		nil, {}, make([]impl.Stmt, 0, 9), {constTo(0)}, {inputTo(0, 0)}, {inputTo(0, 0), sumTo(1, 0, 0)}, {loopOf(8), loopEnd}, {loopOf(1), inputTo(3, 4), loopEnd},
		slices.Repeat([]impl.Stmt{inputTo(0, 0)}, maxStmts), looped(8, slices.Repeat([]impl.Stmt{muxTo(0, 1, 2, 3)}, 15)),
	} {
		checkExactly(t, list, nil)
		checkAllowed(t, list, nil, true)
		checkAllowed(t, list, []int{}, true)
		checkAllowed(t, list, make([]int, 0, 9), true)
		for _, number := range fieldNumbers {
			checkAllowed(t, list, []int{number}, false)
		}
	}
}

// Every statement, with inputs of its own party in each of the other registers
// that can have one, also behind and in a loop.
func TestOutputDepsOfAllStatements(t *testing.T) {
	before := []impl.Stmt{inputTo(0, 0), inputTo(1, 1), inputTo(2, 2), inputTo(4, 3), inputTo(6, 4), sumTo(7, 1, 6)}
	after := []impl.Stmt{outOf(0), outOf(1), outOf(2), outOf(3), outOf(4), outOf(5), outOf(6), outOf(7)}
	for _, s := range allStatements() {
		if isLoop(s) || isEnd(s) {
			continue
		}
		f := afterStep(impl.Flow{Regs: []int{1, 2, 4, 0, 8, 0, 16, 18}}, s)
		checkDeps(t, slices.Concat(before, []impl.Stmt{s}, after), append(f.Outs, f.Regs...))
		f = afterStep(f, s)
		checkDeps(t, slices.Concat(before, looped(2, []impl.Stmt{s}), after), append(f.Outs, f.Regs...))
	}
}

// A dependency moves on by one register in each repetition of a loop, so that
// an output has it only after as many repetitions as there are registers.
func TestOutputDepsOfLaterRepetitions(t *testing.T) {
	for party := range maxParties {
		for length := 1; length < maxRegs; length++ {
			forth, back := []impl.Stmt{outOf(0)}, []impl.Stmt{outOf(0)}
			for i := range length {
				forth = append(forth, sumTo(i, i, i+1))
				back = append(back, sumTo(length-1-i, length-1-i, length-i))
			}
			first := []impl.Stmt{inputTo(length, party)}
			for times := 1; times <= maxLoop; times++ {
				late, early := make([]int, times), slices.Repeat([]int{1 << party}, times)
				for i := length; i < times; i++ {
					late[i] = 1 << party
				}
				early[0] = 0
				checkDeps(t, slices.Concat(first, looped(times, forth)), late)
				checkDeps(t, slices.Concat(first, looped(times, back)), early)
			}
		}
	}
}

// The registers move on by one in each repetition: every output depends on one
// party only, and on nobody when the inputs have moved out.
func TestOutputDepsOfMovedRegisters(t *testing.T) {
	first, moved := []impl.Stmt{}, []impl.Stmt{outOf(0)}
	for party := range maxParties {
		first = append(first, inputTo(party, party))
	}
	for i := range maxRegs - 1 {
		moved = append(moved, muxTo(i, i+1, i+1, i+1))
	}
	want := []int{1, 2, 4, 8, 16, 0, 0, 0}
	for times := 1; times <= maxLoop; times++ {
		checkExactly(t, slices.Concat(first, looped(times, moved)), want[:times])
		checkExactly(t, slices.Concat(first, looped(times, looped(1, moved))), want[:times])
	}
	checkExactly(t, slices.Concat(first, looped(2, looped(3, moved))), want[:6])
	checkExactly(t, slices.Concat(first, looped(2, looped(2, looped(2, moved)))), want)
	checkExactly(t, slices.Concat(first, looped(2, moved), []impl.Stmt{inputTo(0, 0)}, looped(3, moved)), []int{1, 2, 1, 8, 16})
}

// All lists of some statements up to a length: inputs, constants and operations
// that read and overwrite each other's registers, outputs, loops and ends.
func TestOutputDepsOfAllShortLists(t *testing.T) {
	letters := []impl.Stmt{inputTo(0, 0), inputTo(1, 3), constTo(0), sumTo(0, 0, 1), muxTo(1, 2, 0, 2), outOf(0), outOf(1), loopOf(2), loopEnd}
	for length := range 6 {
		for number := range power(len(letters), length) {
			list := []impl.Stmt{}
			for _, digit := range digitsOf(len(letters), length, number) {
				list = append(list, letters[digit])
			}
			checkByDefinition(t, list)
		}
	}
}

// madeProgram returns a program that only the seed determines, of up to
// MaxStmts statements that use some of the registers.
func madeProgram(seed int) []impl.Stmt {
	word := uint32(seed) * 2654435769
	next := func(n int) int {
		word = mixWord(word + 1)
		return int(word>>8) % n
	}
	length, first, registers, times := next(maxStmts+1), next(maxRegs), 2+next(5), 1+next(maxLoop)
	pick := func() int { return (first + next(registers)) % maxRegs }
	list := []impl.Stmt{}
	for depth := 0; len(list)+depth < length; {
		switch next(14) {
		case 0, 1, 2:
			list = append(list, impl.Stmt{Op: impl.OpInput, Dst: pick(), A: next(maxParties), N: next(maxInputs)})
		case 3:
			list = append(list, impl.Stmt{Op: impl.OpConst, Dst: pick(), N: next(16)})
		case 4, 5, 6, 7:
			list = append(list, impl.Stmt{Op: impl.OpAdd + next(7), Dst: pick(), A: pick(), B: pick()})
		case 8:
			list = append(list, muxTo(pick(), pick(), pick(), pick()))
		case 9, 10, 11:
			list = append(list, outOf(pick()))
		case 12:
			if depth < maxDepth && len(list)+depth+2 <= length {
				list = append(list, loopOf(1+next(times)))
				depth++
			}
		case 13:
			if depth > 0 {
				list = append(list, loopEnd)
				depth--
			}
		}
	}
	for nestingOf(bracketsOf(list)) < 0 {
		list = append(list, loopEnd)
	}
	return list
}

// Long programs, with loops, whose outputs depend on several parties.
func TestOutputDepsOfMadePrograms(t *testing.T) {
	programs, large := 0, 0
	for seed := range 8000 {
		list := madeProgram(seed)
		checkByDefinition(t, list)
		if unrolled := unrolledOf(list); len(unrolled) > maxUnrolled {
			large++
		} else if programs++; len(unrolled) <= maxStmts {
			checkDeps(t, unrolled, depsOf(list))
		}
		if seed%50 == 0 && len(unrolledOf(list)) <= maxUnrolled {
			checkExactly(t, list, depsOf(list))
		}
	}
	if programs < 5000 || large < 500 {
		t.Errorf("%d programs and %d that are too large were tried", programs, large)
	}
}

// Lists that are no programs, with outputs or without.
func TestOutputDepsNoPrograms(t *testing.T) {
	for _, text := range []string{
		"2", ")", ")2", "x)", "2x", "22)", "2))", "2)2", "222", ")))", "o)", "2o", "o2", ")o", "2o)2o", "2o))o", "oo(", "x2x", "x)x",
		"1111))))", "2222))))", "2222o))))", "o1111))))o", "0)", "0o)", "9)", "9o)", "20o))", "2o9))", "o0)", "o9)o",
	} {
		checkNoDeps(t, placed(text))
	}
	wrong := []impl.Stmt{
		{}, {Op: -1}, {Op: impl.OpEnd + 1}, {Op: math.MinInt64}, {Op: math.MaxInt64}, {Op: impl.OpConst, N: 16}, {Op: impl.OpInput, A: maxParties},
		{Op: impl.OpInput, A: -1}, {Op: impl.OpInput, N: maxInputs}, {Op: impl.OpAdd, C: 1}, {Op: impl.OpMux, C: maxRegs}, {Op: impl.OpOut, A: -1},
		{Op: impl.OpOut, A: maxRegs}, {Op: impl.OpOut, Dst: 1}, {Op: impl.OpLoop}, {Op: impl.OpLoop, N: maxLoop + 1}, {Op: impl.OpEnd, N: 1},
	}
	whole := []impl.Stmt{inputTo(0, 1), outOf(0), loopOf(2), sumTo(1, 0, 1), outOf(1), loopEnd, constTo(0), outOf(0)}
	checkExactly(t, whole, []int{2, 2, 2, 0})
	for position := range len(whole) + 1 {
		for _, s := range wrong {
			checkNoDeps(t, slices.Insert(slices.Clone(whole), position, s))
			if position < len(whole) {
				checkNoDeps(t, slices.Concat(whole[:position], []impl.Stmt{s}, whole[position+1:]))
			}
		}
		checkNoDeps(t, slices.Insert(slices.Clone(whole), position, loopOf(2)))
		checkNoDeps(t, slices.Insert(slices.Clone(whole), position, loopEnd))
	}
	for _, s := range wrong {
		checkNoDeps(t, []impl.Stmt{s})
		checkNoDeps(t, looped(2, []impl.Stmt{s}))
	}
}

// Programs of every length, of outputs only or none, in loops and without: what
// is too long, or too large to be unrolled, has no dependencies.
func TestOutputDepsLimits(t *testing.T) {
	for length := range 2*maxStmts + 3 {
		for _, s := range []impl.Stmt{outOf(0), inputTo(0, 2), muxTo(0, 0, 0, 1)} {
			list := slices.Repeat([]impl.Stmt{s}, length)
			checkByDefinition(t, list)
			for times := 1; times <= maxLoop; times++ {
				checkByDefinition(t, looped(times, list))
				checkByDefinition(t, append([]impl.Stmt{inputTo(0, 4)}, looped(times, list)...))
			}
		}
	}
	for _, text := range []string{"888o)))", "888x)))", "88oo))", "456o)))", "456o)))x", "o456o)))", "456x)))o", "8" + "xxxxxxxxxxxxxxx" + ")", "8" + "xxxxxxxxxxxxxxo" + ")o"} {
		checkByDefinition(t, placed(text))
	}
	full := append(slices.Repeat([]impl.Stmt{outOf(1), inputTo(1, 3), outOf(0)}, 5), loopEnd)
	checkDeps(t, append([]impl.Stmt{loopOf(8)}, full...), append([]int{0}, slices.Repeat([]int{0, 8}, 40)[:79]...))
	for _, s := range []impl.Stmt{outOf(0), constTo(0), inputTo(0, 0)} {
		checkNoDeps(t, slices.Concat([]impl.Stmt{s, loopOf(8)}, full))
		checkNoDeps(t, slices.Concat([]impl.Stmt{loopOf(8)}, full, []impl.Stmt{s}))
	}
}

// setsProgram returns a program that has an output for each of the sets of
// parties, which depends on these.
func setsProgram(sets ...int) []impl.Stmt {
	list := []impl.Stmt{}
	for _, parties := range sets {
		list = append(list, constTo(0))
		for party := range maxParties {
			if parties>>party&1 == 1 {
				list = append(list, inputTo(1, party), sumTo(0, 0, 1))
			}
		}
		list = append(list, outOf(0))
	}
	return list
}

// covers is the definition of a set that allows all these parties.
func covers(allowed int, parties int) bool {
	for party := range maxParties {
		if parties>>party&1 == 1 && allowed>>party&1 == 0 {
			return false
		}
	}
	return allowed >= 0
}

// All sets of parties with all small numbers that are allowed, and with some
// that have other bits.
func TestFlowOkOneOutput(t *testing.T) {
	numbers := slices.Concat(countsFrom(-70, 140), fieldNumbers, []int{math.MaxInt64 - 31, math.MaxInt64 - 16, math.MinInt64 + 31, 1<<62 + 21, 1<<32 + 31, 31 << 32, 31 << 5})
	for parties := range allParties + 1 {
		list := setsProgram(parties)
		checkExactly(t, list, []int{parties})
		for _, allowed := range numbers {
			checkAllowed(t, list, []int{allowed}, covers(allowed, parties))
		}
	}
}

// All pairs of sets, each with every number that is allowed for one of them,
// while the other has its own parties, all parties, or those of the first.
func TestFlowOkTwoOutputs(t *testing.T) {
	for first := range allParties + 1 {
		for second := range allParties + 1 {
			list := setsProgram(first, second)
			for allowed := -2; allowed <= allParties+1; allowed++ {
				for _, others := range [][2]int{{first, second}, {allParties, allParties}, {second, first}} {
					checkAllowed(t, list, []int{allowed, others[1]}, covers(allowed, first) && covers(others[1], second))
					checkAllowed(t, list, []int{others[0], allowed}, covers(others[0], first) && covers(allowed, second))
				}
			}
		}
	}
}

// Each output has an element of its own: one that is wrong is noticed at every
// place, whatever the others allow.
func TestFlowOkManyOutputs(t *testing.T) {
	body := slices.Concat(setsProgram(5, 26), []impl.Stmt{outOf(1), inputTo(2, 3), outOf(2)})
	list := append([]impl.Stmt{outOf(2)}, looped(7, body)...)
	deps := append([]int{0}, slices.Repeat([]int{5, 26, 16, 8}, 7)...)
	checkExactly(t, list, deps)
	most := append(slices.Repeat([]impl.Stmt{outOf(1), outOf(0)}, 3), sumTo(1, 1, 1))
	list = slices.Concat([]impl.Stmt{inputTo(0, 0), inputTo(1, 4), sumTo(0, 0, 1)}, looped(8, most))
	checkExactly(t, list, slices.Repeat([]int{16, 17}, 24))
	all := looped(8, slices.Repeat([]impl.Stmt{outOf(0)}, 15))
	checkDeps(t, all, make([]int, maxUnrolled))
	for place := range maxUnrolled {
		checkAllowed(t, all, withNumber(make([]int, maxUnrolled), place, -1), false)
		checkAllowed(t, all, withNumber(make([]int, maxUnrolled), place, 1), true)
		checkAllowed(t, all, make([]int, place), false)
	}
	for further := 1; further <= 150; further++ {
		checkAllowed(t, all, make([]int, maxUnrolled+further), false)
	}
}

// guardedFlow returns a flow whose lists are parts of one larger list, with
// numbers before, between and behind them.
func guardedFlow(count int) ([]int, impl.Flow) {
	memory := countsFrom(100, 160)
	return memory, impl.Flow{Regs: memory[3 : 3+count], Outs: memory[5+count : 9+count]}
}

// FlowStep writes neither into the lists of its flow nor behind them, and what
// it returns is new memory, also where nothing changes, and each list its own.
func TestFlowStepResultIsNew(t *testing.T) {
	statements := []impl.Stmt{constTo(0), inputTo(7, 4), sumTo(3, 3, 5), muxTo(6, 1, 2, 3), outOf(0), outOf(7), loopOf(3), loopEnd, {}, {Op: impl.OpOut, A: maxRegs}}
	for _, s := range statements {
		for _, count := range []int{0, 1, maxRegs - 1, maxRegs, maxRegs + 1, 20} {
			memory, f := guardedFlow(count)
			given := slices.Clone(memory)
			first, second := impl.FlowStep(f, s), impl.FlowStep(f, s)
			want := cloneFlow(second)
			overwrite(first.Regs)
			overwrite(second.Outs)
			if !slices.Equal(first.Outs, want.Outs) || !slices.Equal(second.Regs, want.Regs) || !slices.Equal(memory, given) {
				t.Errorf("the flow %v after %+v shares memory with %v or %v", first, s, second, memory)
			}
			third := impl.FlowStep(f, s)
			overwrite(memory)
			if !sameFlow(third, want) {
				t.Errorf("the flow after %+v changed with the one before it to %v", s, third)
			}
		}
	}
	same := []int{1, 2, 3, 4, 5, 6, 7, 8}
	for _, s := range statements {
		after := impl.FlowStep(impl.Flow{Regs: same, Outs: same}, s)
		overwrite(after.Outs)
		if slices.Contains(after.Regs, -9) || slices.Contains(same, -9) {
			t.Errorf("the lists of a flow after %+v share memory: %v, %v", s, after, same)
		}
	}
}

// overwrite writes into a list and behind it, as far as there is memory.
func overwrite(list []int) {
	list = list[:cap(list)]
	for i := range list {
		list[i] = -9
	}
}

// The steps after a flow do not change each other: two statements in turn after
// the same flow, and the flow of each goes on by itself.
func TestFlowStepBranches(t *testing.T) {
	f := impl.FlowNew()
	for _, s := range []impl.Stmt{inputTo(0, 0), inputTo(1, 1), outOf(0), outOf(1), outOf(0)} {
		f = impl.FlowStep(f, s)
	}
	left, right := impl.FlowStep(f, outOf(0)), impl.FlowStep(f, outOf(1))
	for range 10 {
		left, right = impl.FlowStep(left, outOf(1)), impl.FlowStep(right, outOf(0))
	}
	if !slices.Equal(f.Outs, []int{1, 2, 1}) || !slices.Equal(left.Outs[:5], []int{1, 2, 1, 1, 2}) || !slices.Equal(right.Outs[:5], []int{1, 2, 1, 2, 1}) {
		t.Errorf("the outputs are %v, %v and %v", f.Outs, left.Outs, right.Outs)
	}
}

func TestFlowResultsAreNew(t *testing.T) {
	overwrite(impl.FlowNew().Regs)
	overwrite(impl.FlowNew().Outs)
	TestFlowNew(t)
	for _, list := range [][]impl.Stmt{{outOf(0)}, {inputTo(0, 2), outOf(0), outOf(1)}, setsProgram(3, 31, 8), looped(8, []impl.Stmt{outOf(0), inputTo(0, 1)})} {
		want := depsOf(list)
		first, _ := impl.OutputDeps(list)
		second, _ := impl.OutputDeps(list)
		overwrite(first)
		if !slices.Equal(second, want) {
			t.Errorf("the dependencies of %q share memory: %v", textOf(list), second)
		}
		checkDeps(t, list, want)
	}
}

// OutputDeps and FlowOk write neither into their lists nor behind them, and
// what is behind them does not count.
func TestFlowFunctionsLeaveTheLists(t *testing.T) {
	lists := [][]impl.Stmt{nil, {outOf(0)}, {inputTo(0, 2), outOf(0), outOf(1)}, setsProgram(3, 31, 8), looped(3, setsProgram(9)), {loopOf(2)}, {loopEnd}, {{}}, slices.Repeat([]impl.Stmt{outOf(0)}, maxStmts+1)}
	for _, list := range lists {
		guarded := slices.Concat([]impl.Stmt{outOf(3)}, list, []impl.Stmt{outOf(0), loopEnd, {}})
		listBefore := slices.Clone(guarded)
		given := guarded[1 : 1+len(list)]
		allowed := append([]int{-1}, slices.Repeat([]int{allParties}, 60)...)
		allowedBefore := slices.Clone(allowed)
		for count := range 10 {
			want := impl.ProgramOk(list) && count == len(depsOf(list))
			if got := impl.FlowOk(given, allowed[1:1+count]); got != want {
				t.Errorf("FlowOk of %s with %d elements = %v", brief(given), count, got)
			}
			impl.FlowOk(given, allowed[:count])
			impl.OutputDeps(given)
		}
		if !slices.Equal(guarded, listBefore) || !slices.Equal(allowed, allowedBefore) {
			t.Errorf("the lists were changed to %s and %v", brief(guarded), allowed)
		}
	}
}

// The same arguments have the same results again, whatever was called between.
func TestFlowAgain(t *testing.T) {
	whole := []impl.Stmt{inputTo(2, 3), loopOf(3), outOf(0), sumTo(0, 0, 1), sumTo(1, 1, 2), loopEnd, outOf(0)}
	for range 20 {
		for _, list := range [][]impl.Stmt{{loopOf(2)}, {{}}, {inputTo(0, 4), inputTo(1, 4)}, setsProgram(31, 31, 31), slices.Repeat([]impl.Stmt{inputTo(0, 1)}, maxStmts)} {
			impl.OutputDeps(list)
			impl.FlowOk(list, []int{31, 31, 31})
			impl.FlowStep(flows()[5], sumTo(0, 1, 2))
			TestFlowNew(t)
			checkExactly(t, whole, []int{0, 0, 8, 8})
			checkStep(t, flows()[1], muxTo(0, 1, 2, 3), impl.Flow{Regs: []int{14, 2, 4, 8, 16, 32, 64, 128}})
		}
	}
}
