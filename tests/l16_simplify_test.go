package tests

import (
	"fmt"
	"math"
	"slices"
	"strconv"
	"strings"
	"testing"

	"loop.example/g00979/impl"
)

// rewriter is a function of the chapter that returns a circuit.
type rewriter struct {
	name    string
	rewrite func(c impl.Circuit) impl.Circuit
	// defined is the definition of what it returns for a valid circuit.
	defined func(c impl.Circuit) impl.Circuit
}

var (
	simplifying = rewriter{"Simplify", impl.Simplify, simplifiedOf}
	pruning     = rewriter{"Prune", impl.Prune, prunedOf}
	optimizing  = rewriter{"Optimize", impl.Optimize, optimizedOf}
	rewriters   = []rewriter{simplifying, pruning, optimizing}
)

// simplifier is a circuit that is rewritten by the rules of the document, and
// how often each of these was needed.
type simplifier struct {
	circuit impl.Circuit
	rules   map[string]int
}

// needed returns the wire of a gate: that of an equal one, or of a new one.
func (p *simplifier) needed(g impl.Gate) int {
	wire := slices.Index(p.circuit.Gates, g)
	if wire < 0 {
		p.circuit.Gates = append(p.circuit.Gates, g)
		return len(p.circuit.Gates) - 1
	}
	p.rules[fmt.Sprint("known ", g.Kind)]++
	return wire
}

func (p *simplifier) negated(wire int) int {
	g := p.circuit.Gates[wire]
	switch {
	case g == constGate(0):
		p.rules["not 0"]++
		return p.needed(constGate(1))
	case g == constGate(1):
		p.rules["not 1"]++
		return p.needed(constGate(0))
	case g.Kind == impl.GtNot:
		p.rules["not not"]++
		return g.A
	}
	return p.needed(notGate(wire))
}

// pair returns the wire of a GtXor or GtAnd gate of two wires.
func (p *simplifier) pair(kind int, a int, b int) int {
	is := func(wire int, bit int) bool { return p.circuit.Gates[wire] == constGate(bit) }
	for _, rule := range []struct {
		name    string
		applies bool
		xor     func() int
		and     func() int
	}{
		{"equal", a == b, func() int { return p.needed(constGate(0)) }, func() int { return a }},
		{"0 first", is(a, 0), func() int { return b }, func() int { return p.needed(constGate(0)) }},
		{"1 first", is(a, 1), func() int { return p.negated(b) }, func() int { return b }},
		{"0 second", is(b, 0), func() int { return a }, func() int { return p.needed(constGate(0)) }},
		{"1 second", is(b, 1), func() int { return p.negated(a) }, func() int { return a }},
		{"swapped", a > b, func() int { return p.needed(xorGate(b, a)) }, func() int { return p.needed(andGate(b, a)) }},
		{"itself", true, func() int { return p.needed(xorGate(a, b)) }, func() int { return p.needed(andGate(a, b)) }},
	} {
		if rule.applies {
			p.rules[fmt.Sprint(rule.name, " ", kind)]++
			if kind == impl.GtXor {
				return rule.xor()
			}
			return rule.and()
		}
	}
	panic("no rule applies")
}

// simplify follows the rules of the document, gate by gate.
func (p *simplifier) simplify(c impl.Circuit) {
	wires := []int{}
	for _, g := range c.Gates {
		wire := 0
		switch g.Kind {
		case impl.GtXor, impl.GtAnd:
			wire = p.pair(g.Kind, wires[g.A], wires[g.B])
		case impl.GtNot:
			wire = p.negated(wires[g.A])
		default:
			wire = p.needed(g)
		}
		wires = append(wires, wire)
	}
	p.circuit.Outs = valuesAt(wires, c.Outs)
}

func simplifiedOf(c impl.Circuit) impl.Circuit {
	p := simplifier{rules: map[string]int{}}
	p.simplify(c)
	return p.circuit
}

// neededIn reports, for each gate, whether an output needs it. It goes from the
// outputs to their operands, and on to those of these.
func neededIn(c impl.Circuit) []bool {
	needed := make([]bool, len(c.Gates))
	next := slices.Clone(c.Outs)
	for len(next) > 0 {
		wire := next[0]
		next = next[1:]
		if needed[wire] {
			continue
		}
		needed[wire] = true
		switch g := c.Gates[wire]; g.Kind {
		case impl.GtXor, impl.GtAnd:
			next = append(next, g.A, g.B)
		case impl.GtNot:
			next = append(next, g.A)
		}
	}
	return needed
}

// prunedOf is the definition of the circuit without gates that are not needed:
// the number of a wire becomes that of the needed gates before it.
func prunedOf(c impl.Circuit) impl.Circuit {
	pruned, moved, count := impl.Circuit{}, make([]int, len(c.Gates)), 0
	for at, isNeeded := range neededIn(c) {
		moved[at] = count
		if !isNeeded {
			continue
		}
		count++
		g := c.Gates[at]
		switch g.Kind {
		case impl.GtXor:
			g = xorGate(moved[g.A], moved[g.B])
		case impl.GtAnd:
			g = andGate(moved[g.A], moved[g.B])
		case impl.GtNot:
			g = notGate(moved[g.A])
		}
		pruned.Gates = append(pruned.Gates, g)
	}
	pruned.Outs = valuesAt(moved, c.Outs)
	return pruned
}

func optimizedOf(c impl.Circuit) impl.Circuit { return prunedOf(simplifiedOf(c)) }

// gatesOf returns the gates of a text as gatesText writes it.
func gatesOf(text string) []impl.Gate {
	number := func(digits string) int {
		n, err := strconv.Atoi(digits)
		if err != nil {
			panic("no gates: " + text)
		}
		return n
	}
	gates := []impl.Gate{}
	for _, field := range strings.Fields(text) {
		left, right, _ := strings.Cut(strings.ReplaceAll(field, "&", "^"), "^")
		switch {
		case strings.Contains(field, "^"):
			gates = append(gates, xorGate(number(left), number(right)))
		case strings.Contains(field, "&"):
			gates = append(gates, andGate(number(left), number(right)))
		case field[0] == '!':
			gates = append(gates, notGate(number(field[1:])))
		case field[0] == 'i':
			gates = append(gates, inputGate(number(field[1:])))
		default:
			gates = append(gates, constGate(number(field)))
		}
	}
	return gates
}

// wholeCircuit describes a circuit, also a large one.
func wholeCircuit(c impl.Circuit) string {
	return fmt.Sprintf("%.900s with outputs %.300s", gatesText(c), fmt.Sprint(c.Outs))
}

// checkRewrittenTo checks the circuit that a function returns, and that it leaves
// its argument as it is.
func checkRewrittenTo(t *testing.T, f rewriter, c impl.Circuit, want impl.Circuit) {
	t.Helper()
	before := cloneCircuit(c)
	if got := f.rewrite(c); !sameCircuit(got, want) {
		t.Errorf("%s of %s = %s; want %s", f.name, wholeCircuit(before), wholeCircuit(got), wholeCircuit(want))
	}
	if !sameCircuit(c, before) {
		t.Errorf("%s changed %s to %s", f.name, wholeCircuit(before), wholeCircuit(c))
	}
}

func checkLive(t *testing.T, c impl.Circuit, want int) {
	t.Helper()
	before := cloneCircuit(c)
	if got := impl.LiveGates(c); got != want {
		t.Errorf("LiveGates of %s = %d; want %d", wholeCircuit(before), got, want)
	}
	if !sameCircuit(c, before) {
		t.Errorf("LiveGates changed %s to %s", wholeCircuit(before), wholeCircuit(c))
	}
}

// checkSmaller checks what Simplify, Prune, Optimize and LiveGates return for a
// valid circuit, and that a second time changes nothing.
func checkSmaller(t *testing.T, c impl.Circuit) {
	t.Helper()
	for _, f := range rewriters {
		want := f.defined(c)
		checkRewrittenTo(t, f, c, want)
		checkRewrittenTo(t, f, want, want)
		if !impl.CircuitOk(want) || len(want.Gates) > len(c.Gates) {
			t.Errorf("%s of %s has %d gates, or is not valid", f.name, wholeCircuit(c), len(want.Gates))
		}
	}
	pruned := prunedOf(c)
	checkLive(t, c, len(pruned.Gates))
	checkLive(t, pruned, len(pruned.Gates))
	checkLive(t, simplifiedOf(c), len(optimizedOf(c).Gates))
}

// checkSameValues checks that the circuits that Simplify, Prune and Optimize
// return have the outputs of the circuit itself.
func checkSameValues(t *testing.T, c impl.Circuit, bitLists ...[]int) {
	t.Helper()
	for _, f := range rewriters {
		rewritten := f.rewrite(c)
		for _, bits := range bitLists {
			want, valid := impl.EvalCircuit(c, bits)
			if got, ok := impl.EvalCircuit(rewritten, bits); !slices.Equal(got, want) || !ok || !valid {
				t.Errorf("%s of %s has the outputs %.300s, %v for %v; want %.300s, %v", f.name, wholeCircuit(c), fmt.Sprint(got), ok, bits, fmt.Sprint(want), valid)
			}
		}
	}
}

// checkNotRewritten checks that a circuit that is not valid is returned as it is.
func checkNotRewritten(t *testing.T, c impl.Circuit) {
	t.Helper()
	for _, f := range rewriters {
		checkRewrittenTo(t, f, c, cloneCircuit(c))
	}
	checkLive(t, c, -1)
}

// rewriting is a circuit as text, with its outputs, and what becomes of it.
type rewriting struct {
	gates    string
	outs     []int
	want     string
	wantOuts []int
}

func (r rewriting) circuits() (c impl.Circuit, want impl.Circuit) {
	return impl.Circuit{Gates: gatesOf(r.gates), Outs: r.outs}, impl.Circuit{Gates: gatesOf(r.want), Outs: r.wantOuts}
}

// checkRewritings checks what a function returns for circuits that are written
// out, as is what it returns.
func checkRewritings(t *testing.T, f rewriter, cases []rewriting) {
	t.Helper()
	for _, r := range cases {
		c, want := r.circuits()
		if gatesText(c) != r.gates || gatesText(want) != r.want {
			t.Errorf("%q and %q are not the texts of their circuits", r.gates, r.want)
		}
		checkRewrittenTo(t, f, c, want)
		if defined := f.defined(c); !sameCircuit(defined, want) {
			t.Errorf("the definition of %s has %s for %s", f.name, wholeCircuit(defined), wholeCircuit(c))
		}
		checkSmaller(t, c)
		checkSameValues(t, c, append(bitSets(), allValuesOf(1, 2, 3, 4)...)...)
	}
}

// Equal operands, also those that become equal only by a replacement.
func TestSimplifyEqualOperands(t *testing.T) {
	checkRewritings(t, simplifying, []rewriting{
		{"i3 0^0", []int{1}, "i3 0", []int{1}},
		{"i3 0^0", []int{0, 1, 0}, "i3 0", []int{0, 1, 0}},
		{"i3 0 0^0", []int{2, 1, 0}, "i3 0", []int{1, 1, 0}},
		{"0 i3 1^1", []int{2}, "0 i3", []int{0}},
		{"i3 1 0^0", []int{2, 1}, "i3 1 0", []int{2, 1}},
		{"i3 i4 1^1 0^0", []int{3, 2}, "i3 i4 0", []int{2, 2}},
		{"i3 i4 0^1 2^2", []int{3}, "i3 i4 0^1 0", []int{3}},
		{"i3 !0 1^1", []int{2}, "i3 !0 0", []int{2}},
		{"0 0^0", []int{1}, "0", []int{0}},
		{"1 0^0", []int{1}, "1 0", []int{1}},
		{"i3 0&0", []int{1}, "i3", []int{0}},
		{"i3 i4 1&1 0&0", []int{2, 3}, "i3 i4", []int{1, 0}},
		{"i3 0&0 1&1 2^2", []int{1, 2, 3}, "i3 0", []int{0, 0, 1}},
		{"i3 !0 1&1", []int{2}, "i3 !0", []int{1}},
		{"0 0&0", []int{1}, "0", []int{0}},
		{"1 0&0", []int{1}, "1", []int{0}},
		// Equal after a replacement.
		{"i3 i3 0^1", []int{2}, "i3 0", []int{1}},
		{"i3 i3 1^0", []int{2}, "i3 0", []int{1}},
		{"i3 i3 0&1", []int{2}, "i3", []int{0}},
		{"i3 i3 1&0", []int{2}, "i3", []int{0}},
		{"i3 !0 !1 0^2", []int{3}, "i3 !0 0", []int{2}},
		{"i3 !0 !1 2^0", []int{3}, "i3 !0 0", []int{2}},
		{"i3 !0 !1 0&2", []int{3}, "i3 !0", []int{0}},
		{"i3 !0 !0 1^2", []int{3}, "i3 !0 0", []int{2}},
		{"i3 !0 !0 1&2", []int{3}, "i3 !0", []int{1}},
		{"i3 i4 0^1 1^0 2^3", []int{4, 3}, "i3 i4 0^1 0", []int{3, 2}},
		{"i3 i4 0&1 1&0 2&3", []int{4, 3}, "i3 i4 0&1", []int{2, 2}},
		{"i3 0 0^1 2^0", []int{3}, "i3 0", []int{1}},
		{"i3 1 0&1 0&2", []int{3}, "i3 1", []int{0}},
		{"i3 i4 0&0 0^2 1&2", []int{3, 4}, "i3 i4 0 0&1", []int{2, 3}},
		// Unequal ones: a wire and its negation are no operands of a rule.
		{"i3 !0 0^1 0&1", []int{2, 3}, "i3 !0 0^1 0&1", []int{2, 3}},
		{"i3 i4 0^1 0^2 1^2", []int{3, 4}, "i3 i4 0^1 0^2 1^2", []int{3, 4}},
	})
}

// A constant as A and as B of GtXor and GtAnd, before and behind the other one.
func TestSimplifyConstantOperands(t *testing.T) {
	checkRewritings(t, simplifying, []rewriting{
		{"0 i4 0^1", []int{2}, "0 i4", []int{1}},
		{"0 i4 1^0", []int{2}, "0 i4", []int{1}},
		{"i4 0 0^1", []int{2}, "i4 0", []int{0}},
		{"i4 0 1^0", []int{2}, "i4 0", []int{0}},
		{"1 i4 0^1", []int{2}, "1 i4 !1", []int{2}},
		{"1 i4 1^0", []int{2}, "1 i4 !1", []int{2}},
		{"i4 1 0^1", []int{2}, "i4 1 !0", []int{2}},
		{"i4 1 1^0", []int{2}, "i4 1 !0", []int{2}},
		{"0 i4 0&1", []int{2}, "0 i4", []int{0}},
		{"0 i4 1&0", []int{2}, "0 i4", []int{0}},
		{"i4 0 0&1", []int{2}, "i4 0", []int{1}},
		{"i4 0 1&0", []int{2}, "i4 0", []int{1}},
		{"1 i4 0&1", []int{2}, "1 i4", []int{1}},
		{"1 i4 1&0", []int{2}, "1 i4", []int{1}},
		{"i4 1 0&1", []int{2}, "i4 1", []int{0}},
		{"i4 1 1&0", []int{2}, "i4 1", []int{0}},
		// The other operand is a gate, which stays also if nothing else uses it.
		{"i3 i4 0&1 0 2^3 2&3", []int{4, 5}, "i3 i4 0&1 0", []int{2, 3}},
		{"i3 i4 0^1 1 2^3 2&3", []int{4, 5}, "i3 i4 0^1 1 !2", []int{4, 2}},
		// A constant that results from another rule is a constant too.
		{"i3 i4 0^0 1^2 1&2", []int{3, 4}, "i3 i4 0", []int{1, 2}},
		{"i3 i4 0^0 !2 1^3 3&1", []int{4, 5}, "i3 i4 0 1 !1", []int{4, 1}},
		{"0 i3 0&1 i4 2^3 3&2", []int{4, 5}, "0 i3 i4", []int{2, 0}},
	})
}

// All pairs of two constants, in both orders and with each as the earlier gate.
func TestSimplifyTwoConstants(t *testing.T) {
	checkRewritings(t, simplifying, []rewriting{
		{"0 1 0^0 0^1 1^0 1^1", []int{2, 3, 4, 5}, "0 1", []int{0, 1, 1, 0}},
		{"1 0 0^0 0^1 1^0 1^1", []int{2, 3, 4, 5}, "1 0", []int{1, 0, 0, 1}},
		{"0 1 0&0 0&1 1&0 1&1", []int{2, 3, 4, 5}, "0 1", []int{0, 0, 0, 1}},
		{"1 0 0&0 0&1 1&0 1&1", []int{2, 3, 4, 5}, "1 0", []int{0, 1, 1, 1}},
		{"0 0 0^1", []int{2}, "0", []int{0}},
		{"1 1 0^1", []int{2}, "1 0", []int{1}},
		{"1 1 1^0", []int{2}, "1 0", []int{1}},
		{"0 1 0^1", []int{2}, "0 1", []int{1}},
		{"0 1 1^0", []int{2}, "0 1", []int{1}},
		{"1 0 0^1", []int{2}, "1 0", []int{0}},
		{"1 0 1^0", []int{2}, "1 0", []int{0}},
		{"0 0 0&1", []int{2}, "0", []int{0}},
		{"1 1 0&1", []int{2}, "1", []int{0}},
		{"0 1 0&1", []int{2}, "0 1", []int{0}},
		{"0 1 1&0", []int{2}, "0 1", []int{0}},
		{"1 0 0&1", []int{2}, "1 0", []int{1}},
		{"1 0 1&0", []int{2}, "1 0", []int{1}},
		{"0 !0 0^1 2&1 3^3 !4", []int{2, 3, 4, 5}, "0 1", []int{1, 1, 0, 1}},
	})
}

// Negations, those of GtNot gates and those that a GtXor with a constant 1 needs.
func TestSimplifyNegations(t *testing.T) {
	checkRewritings(t, simplifying, []rewriting{
		{"0 !0", []int{1}, "0 1", []int{1}},
		{"1 !0", []int{1}, "1 0", []int{1}},
		{"0 1 !0", []int{2}, "0 1", []int{1}},
		{"0 1 !1", []int{2}, "0 1", []int{0}},
		{"1 0 !0 !1", []int{2, 3}, "1 0", []int{1, 0}},
		{"0 !0 !1 !2", []int{1, 2, 3}, "0 1", []int{1, 0, 1}},
		{"1 !0 !1 !2", []int{1, 2, 3}, "1 0", []int{1, 0, 1}},
		{"i2 !0", []int{1}, "i2 !0", []int{1}},
		{"i2 !0 !1", []int{2}, "i2 !0", []int{0}},
		{"i2 !0 !1 !2", []int{3}, "i2 !0", []int{1}},
		{"i2 !0 !1 !2 !3 !4", []int{0, 1, 2, 3, 4, 5}, "i2 !0", []int{0, 1, 0, 1, 0, 1}},
		{"i2 i3 0&1 !2 !3 !4", []int{4, 5}, "i2 i3 0&1 !2", []int{2, 3}},
		{"i2 i3 0^1 !2 !3 !4", []int{4, 5}, "i2 i3 0^1 !2", []int{2, 3}},
		{"i2 i3 !1 !2 !0 !4", []int{3, 4, 5}, "i2 i3 !1 !0", []int{1, 3, 0}},
		// The negation of a GtXor with a constant 1 exists already.
		{"i2 !0 1 0^2", []int{3}, "i2 !0 1", []int{1}},
		{"i2 !0 1 2^0", []int{3}, "i2 !0 1", []int{1}},
		{"1 i2 !1 0^1", []int{3}, "1 i2 !1", []int{2}},
		{"i2 1 0^1 1^0", []int{2, 3}, "i2 1 !0", []int{2, 2}},
		{"i2 1 0^1 !0", []int{2, 3}, "i2 1 !0", []int{2, 2}},
		// Its operand is a GtNot gate, or the negation of one.
		{"i2 !0 1 1^2", []int{3}, "i2 !0 1", []int{0}},
		{"i2 !0 1 2^1", []int{3}, "i2 !0 1", []int{0}},
		{"i2 1 0^1 2^1", []int{2, 3}, "i2 1 !0", []int{2, 0}},
		{"i2 1 0^1 !2 3^1", []int{2, 3, 4}, "i2 1 !0", []int{2, 0, 2}},
		{"i2 !0 !1 1 2^3", []int{4}, "i2 !0 1", []int{1}},
		// Negated operands of other gates.
		{"i2 i3 !0 !1 2&3 !4", []int{5}, "i2 i3 !0 !1 2&3 !4", []int{5}},
		{"i2 i3 !0 !2 1&3 1^3", []int{4, 5}, "i2 i3 !0 0&1 0^1", []int{3, 4}},
	})
}

// The operands of GtXor and GtAnd are ordered by their new wires.
func TestSimplifyOrdersOperands(t *testing.T) {
	checkRewritings(t, simplifying, []rewriting{
		{"i1 i2 1^0", []int{2}, "i1 i2 0^1", []int{2}},
		{"i1 i2 1&0", []int{2}, "i1 i2 0&1", []int{2}},
		{"i1 i2 0^1 0&1", []int{2, 3}, "i1 i2 0^1 0&1", []int{2, 3}},
		{"i1 i2 0^1 1^0", []int{2, 3}, "i1 i2 0^1", []int{2, 2}},
		{"i1 i2 1^0 0^1", []int{2, 3}, "i1 i2 0^1", []int{2, 2}},
		{"i1 i2 1^0 1^0", []int{2, 3}, "i1 i2 0^1", []int{2, 2}},
		{"i1 i2 0&1 1&0", []int{2, 3}, "i1 i2 0&1", []int{2, 2}},
		{"i1 i2 1&0 0&1", []int{2, 3}, "i1 i2 0&1", []int{2, 2}},
		{"i1 i2 1^0 1&0 2^3 3^2", []int{4, 5}, "i1 i2 0^1 0&1 2^3", []int{4, 4}},
		// The replaced operands stand in another order than the given ones.
		{"i1 i2 i1 1^2", []int{3}, "i1 i2 0^1", []int{2}},
		{"i1 i2 i1 2^1", []int{3}, "i1 i2 0^1", []int{2}},
		{"i1 i2 i1 1&2", []int{3}, "i1 i2 0&1", []int{2}},
		{"i1 i2 i1 2&1", []int{3}, "i1 i2 0&1", []int{2}},
		{"i1 i2 !0 !2 1&3 3&1 0&1", []int{4, 5, 6}, "i1 i2 !0 0&1", []int{3, 3, 3}},
	})
}

// An equal gate stands only once, and its wire takes the place of the others,
// which can be outputs.
func TestSimplifyEqualGates(t *testing.T) {
	checkRewritings(t, simplifying, []rewriting{
		{"i4 i4", []int{0, 1}, "i4", []int{0, 0}},
		{"i4 i4 i4 i4", []int{3}, "i4", []int{0}},
		{"i4 i3 i4 i3", []int{2, 3}, "i4 i3", []int{0, 1}},
		{"0 0", []int{1, 0}, "0", []int{0, 0}},
		{"1 1 1", []int{2}, "1", []int{0}},
		{"1 0 1 0", []int{2, 3}, "1 0", []int{0, 1}},
		{"i4 !0 !0", []int{1, 2}, "i4 !0", []int{1, 1}},
		{"i4 i3 !1 !0 !1 !0", []int{4, 5}, "i4 i3 !1 !0", []int{2, 3}},
		{"i4 i4 !0 !1", []int{2, 3}, "i4 !0", []int{1, 1}},
		{"i1 i2 0^1 0^1 2&0 3&0", []int{5, 4, 3}, "i1 i2 0^1 0&2", []int{3, 3, 2}},
		{"i1 i2 i3 0&1 0&2 1&2 0&1 1&2 0&2", []int{6, 7, 8}, "i1 i2 i3 0&1 0&2 1&2", []int{3, 5, 4}},
		// Gates of different kinds with the same numbers are not equal.
		{"i0 0 !0", []int{0, 1, 2}, "i0 0 !0", []int{0, 1, 2}},
		{"i1 1 !0", []int{0, 1, 2}, "i1 1 !0", []int{0, 1, 2}},
		{"1 i1 !1 0", []int{3, 2, 1, 0}, "1 i1 !1 0", []int{3, 2, 1, 0}},
		{"i0 i1 0^1 0&1 2^3 2&3", []int{4, 5}, "i0 i1 0^1 0&1 2^3 2&3", []int{4, 5}},
		// Neither are negations of different wires, nor inputs of different bits.
		{"i0 i1 !0 !1 i2", []int{2, 3, 4}, "i0 i1 !0 !1 i2", []int{2, 3, 4}},
		{"i0 i79 i78 i1", []int{3, 2, 1, 0}, "i0 i79 i78 i1", []int{3, 2, 1, 0}},
	})
}

// A constant that a rule needs is the one that exists, or is appended where the
// rule needs it.
func TestSimplifyNeededConstants(t *testing.T) {
	checkRewritings(t, simplifying, []rewriting{
		{"i1 0^0 i2 1^2", []int{3, 1}, "i1 0 i2", []int{2, 1}},
		{"i1 0^0 0", []int{1, 2}, "i1 0", []int{1, 1}},
		{"i1 0^0 !1 1", []int{1, 2, 3}, "i1 0 1", []int{1, 2, 2}},
		{"i1 1 0^0 !1 0", []int{2, 3, 4}, "i1 1 0", []int{2, 2, 2}},
		{"1 i1 !0 1^2 1&2", []int{2, 3, 4}, "1 i1 0", []int{2, 1, 2}},
		{"0 i1 !0 1^2 1&2", []int{2, 3, 4}, "0 i1 1 !1", []int{2, 3, 1}},
		{"i1 0^0 i2 2^2 i3 4^4", []int{1, 3, 5}, "i1 0 i2 i3", []int{1, 1, 1}},
		{"i1 1 0^1 2^2 3^1 !3", []int{2, 3, 4, 5}, "i1 1 !0 0", []int{2, 3, 1, 1}},
	})
}

// Gates that no output needs stay, in their order; so do circuits without outputs
// or gates, and those to which no rule applies.
func TestSimplifyKeepsGates(t *testing.T) {
	checkRewritings(t, simplifying, []rewriting{
		{"", nil, "", nil},
		{"i1", nil, "i1", nil},
		{"0", nil, "0", nil},
		{"i1 i2 0&1 !0 1", nil, "i1 i2 0&1 !0 1", nil},
		{"i1 i2 1&0 !0 1 i1", []int{5}, "i1 i2 0&1 !0 1", []int{0}},
		{"i79 i0 1 0 0^1 0&1 !4 5^6 6&7 !8", []int{9, 3, 2, 9}, "i79 i0 1 0 0^1 0&1 !4 5^6 6&7 !8", []int{9, 3, 2, 9}},
		// The numbers of GtInput and GtConst gates are no wires.
		{"i5 i5 i2 i1 i0 2^3", []int{5}, "i5 i2 i1 i0 1^2", []int{4}},
		{"0 0 1 i0 i1 i2 2&5", []int{6}, "0 1 i0 i1 i2", []int{4}},
		{"i1 i1 0 1 i3 !4", []int{5}, "i1 0 1 i3 !3", []int{4}},
	})
}

// What is needed only by gates that are replaced is removed.
func TestOptimize(t *testing.T) {
	checkRewritings(t, optimizing, []rewriting{
		{"i0 1 0&1 2^1 !3", []int{4}, "i0", []int{0}},
		{"i0 1 0&1 2^1 !3", []int{3}, "i0 !0", []int{1}},
		{"i0 1 0&1 2^1 !3", []int{1, 1}, "1", []int{0, 0}},
		{"i0 1 0&1 2^1 !3", nil, "", nil},
		{"", nil, "", nil},
		{"i1 0^0", []int{1}, "0", []int{0}},
		{"i1 i2 0^0 1^2", []int{3}, "i2", []int{0}},
		{"0 i1 i2 1&2 0&3 4^2", []int{5}, "i2", []int{0}},
		{"0 i1 i2 1&2 0&3 4^2", []int{4, 3}, "0 i1 i2 1&2", []int{0, 3}},
		{"i1 i2 i3 2&0 0&2 3^4 1^5", []int{6}, "i2", []int{0}},
		{"i4 i1 i2 2&1 !3 !4 5^0", []int{6, 5}, "i4 i1 i2 1&2 0^3", []int{4, 3}},
		{"i1 1 0^1 i2 2&3 !0", []int{4, 5}, "i1 !0 i2 1&2", []int{3, 1}},
		{"i1 i2 !1 !2 !3 0&4", []int{5, 3}, "i1 i2 !1 0&2", []int{3, 1}},
	})
}

func TestPrune(t *testing.T) {
	checkRewritings(t, pruning, []rewriting{
		// In front of, between and behind gates that are needed.
		{"i1 i2 !1", []int{2}, "i2 !0", []int{1}},
		{"i1 i2 !0", []int{2}, "i1 !0", []int{1}},
		{"i1 !0 i2", []int{1}, "i1 !0", []int{1}},
		{"i1 i2 i3 i4 1^3 !0 4&1 !6", []int{6}, "i2 i4 0^1 2&0", []int{3}},
		{"0 i1 1 i2 0 i3 1&3 1 0 3^6 0", []int{9}, "i1 i2 0&1 1^2", []int{3}},
		// Gates that only gates use that are not needed.
		{"i1 i2 0&1 !2 0^1", []int{4}, "i1 i2 0^1", []int{2}},
		{"i1 !0 !1 !2 !3", []int{1}, "i1 !0", []int{1}},
		{"i1 !0 !1 !2 !3", []int{0}, "i1", []int{0}},
		{"i1 i2 !0 2^2 3&3 4^2 1^1", []int{6}, "i2 0^0", []int{1}},
		{"i1 0&0 0^0", []int{2}, "i1 0^0", []int{1}},
		{"i1 0&0 0^0 1&2 i3", []int{4}, "i3", []int{0}},
		// Gates that others use, both needed and not.
		{"i1 i2 0^1 2&0 2&1", []int{3}, "i1 i2 0^1 2&0", []int{3}},
		{"i1 i2 0^1 2&0 2&1", []int{4}, "i1 i2 0^1 2&1", []int{3}},
		{"i1 i2 0^1 2&0 2&1", []int{2, 0}, "i1 i2 0^1", []int{2, 0}},
		// Outputs twice, in any order, and used by other gates.
		{"i1 i2 i3", []int{2, 0, 2}, "i1 i3", []int{1, 0, 1}},
		{"i1 i2 i3", []int{2, 2, 2, 2}, "i3", []int{0, 0, 0, 0}},
		{"i1 i2 i3 !1 3&2", []int{4, 1, 3, 4}, "i2 i3 !0 2&1", []int{3, 0, 2, 3}},
		// No outputs, no gates, and gates that are all needed.
		{"", nil, "", nil},
		{"i1", nil, "", nil},
		{"i1 0 1 0^1 !3 0&4 5&5", nil, "", nil},
		{"i1", []int{0}, "i1", []int{0}},
		{"i1 i2 0^1 0&1 !2 4^3", []int{5}, "i1 i2 0^1 0&1 !2 4^3", []int{5}},
		{"i1 i2 0^1", []int{2, 1, 0}, "i1 i2 0^1", []int{2, 1, 0}},
		// The numbers of GtInput and GtConst gates are no wires.
		{"i2 0 1 i79 i3 3^4", []int{5}, "i79 i3 0^1", []int{2}},
		{"i0 i1 i2 i3 i4", []int{4, 2}, "i2 i4", []int{1, 0}},
		{"0 1 i1 1&2", []int{3}, "1 i1 0&1", []int{2}},
		{"i4 0 1 0 1", []int{4, 3}, "0 1", []int{1, 0}},
		{"i0 i1 1 0 2^3", []int{4}, "1 0 0^1", []int{2}},
		// Nothing is simplified, and the order of operands stays.
		{"0 i1 i1 2^1 0&3 !4 !5", []int{6}, "0 i1 i1 2^1 0&3 !4 !5", []int{6}},
		{"i3 i1 i1 2^1 1&2 !3", []int{4, 5}, "i1 i1 1^0 0&1 !2", []int{3, 4}},
	})
}

// LiveGates is not the number of gates of the circuit that Optimize returns.
func TestLiveGates(t *testing.T) {
	for _, c := range []struct {
		gates string
		outs  []int
		want  int
	}{
		{"i0 1 0&1 2^1 !3", []int{4}, 5},
		{"i0 1 0&1 2^1 !3", []int{3}, 4},
		{"i0 1 0&1 2^1 !3", []int{2, 2}, 3},
		{"i0 1 0&1 2^1 !3", []int{1}, 1},
		{"i0 1 0&1 2^1 !3", []int{1, 0, 1}, 2},
		{"i0 1 0&1 2^1 !3", nil, 0},
		{"", nil, 0},
		{"i3 i3 0^1 !2 !3", []int{4}, 5},
		{"i3 i4 i5 1&1 !0 3^2", []int{5}, 4},
	} {
		checkLive(t, impl.Circuit{Gates: gatesOf(c.gates), Outs: c.outs}, c.want)
	}
}

// outputLists returns lists of outputs of so many gates: none, each alone, some
// twice, all of them.
func outputLists(count int) [][]int {
	lists := [][]int{nil}
	for wire := range count {
		lists = append(lists, []int{wire}, []int{count - 1, wire, wire})
	}
	all := countsFrom(0, count-1)
	slices.Reverse(all)
	return append(lists, all)
}

// All circuits of up to four gates over two input bits and the constants.
func TestSimplifyAllSmallCircuits(t *testing.T) {
	for count := range 5 {
		smallCircuits(count, func(c impl.Circuit) {
			for _, outs := range outputLists(count) {
				checkSmaller(t, impl.Circuit{Gates: c.Gates, Outs: outs})
			}
			checkSameValues(t, c, bitsAt(), bitsAt(0), bitsAt(79), bitsAt(0, 79))
		})
	}
}

// All circuits of a few gates behind two inputs and both constants, or behind
// others: several rules in a row.
func TestSimplifyAllShortEnds(t *testing.T) {
	for _, text := range []string{"i0 i79 0 1", "1 i0 i79", "i0 !0 1", "i79 i0 0^1 !2", "i0 i0 0"} {
		first := gatesOf(text)
		for _, second := range gatesAt(len(first)) {
			for _, third := range gatesAt(len(first) + 1) {
				c := circuitOf(append(slices.Clone(first), second, third)...)
				c.Outs = countsFrom(0, len(c.Gates)-1)
				checkSmaller(t, c)
				checkSameValues(t, c, bitsAt(), bitsAt(0), bitsAt(79), bitsAt(0, 79))
				checkSmaller(t, impl.Circuit{Gates: c.Gates, Outs: c.Outs[len(first)+1:]})
			}
		}
	}
}

// crowdedCircuit is a made circuit of few inputs, so that many of its gates are
// equal.
func crowdedCircuit(seed int, most int) impl.Circuit {
	c := madeCircuit(seed, most)
	for at, g := range c.Gates {
		if g.Kind == impl.GtInput {
			c.Gates[at] = inputGate(g.A % 4)
		}
	}
	return c
}

// withoutConstants returns a circuit that has an input in place of each constant.
func withoutConstants(c impl.Circuit) impl.Circuit {
	changed := cloneCircuit(c)
	for at, g := range c.Gates {
		if g.Kind == impl.GtConst {
			changed.Gates[at] = inputGate(60 + at%9)
		}
	}
	return changed
}

// Larger circuits, to which all rules apply often.
func TestSimplifyMadeCircuits(t *testing.T) {
	p := simplifier{rules: map[string]int{}}
	dead := 0
	for seed := range 1200 {
		made, crowded := madeCircuit(seed, 120), crowdedCircuit(seed, 120)
		for _, c := range []impl.Circuit{made, crowded, withoutConstants(made), withoutConstants(crowded)} {
			checkSmaller(t, c)
			checkSameValues(t, c, append(bitSets(), madeBits(seed), madeBits(seed+1))...)
			all := impl.Circuit{Gates: c.Gates, Outs: countsFrom(0, len(c.Gates)-1)}
			checkSmaller(t, all)
			checkSameValues(t, all, madeBits(seed), madeBits(seed+3))
			p.circuit = impl.Circuit{}
			p.simplify(c)
			dead += len(c.Gates) - impl.LiveGates(c)
		}
	}
	rules := []string{"not 0", "not 1", "not not"}
	for _, kind := range gateKinds {
		rules = append(rules, fmt.Sprint("known ", kind))
		if kind == impl.GtXor || kind == impl.GtAnd {
			for _, rule := range []string{"equal", "0 first", "1 first", "0 second", "1 second", "swapped", "itself"} {
				rules = append(rules, fmt.Sprint(rule, " ", kind))
			}
		}
	}
	for _, rule := range rules {
		if p.rules[rule] < 200 {
			t.Errorf("the rule %q was needed only %d times", rule, p.rules[rule])
		}
	}
	if len(p.rules) != len(rules) || dead < 20000 {
		t.Errorf("%d rules were needed, and %d gates were not needed", len(p.rules), dead)
	}
}

// checkOptimizedRun checks that the smaller circuits of a program have the
// outputs of the program, for each of these inputs.
func checkOptimizedRun(t *testing.T, list []impl.Stmt, inputLists ...[][]int) {
	t.Helper()
	c, ok := impl.Compile(list)
	if !ok {
		t.Errorf("%.400q has no circuit", textOf(list))
		return
	}
	checkSmaller(t, c)
	bitLists := [][]int{}
	for _, inputs := range inputLists {
		bitLists = append(bitLists, inputBitsOf(inputs))
		for _, f := range rewriters {
			checkRunOf(t, f.rewrite(c), inputs, outputsOf(list, inputs))
		}
	}
	checkSameValues(t, c, bitLists...)
}

// Every operation, on inputs, constants, the same register and a register that
// was not set.
func TestSimplifyEachOperation(t *testing.T) {
	for op := impl.OpAdd; op <= impl.OpMux; op++ {
		for _, operands := range [][3]int{{0, 1, 2}, {1, 0, 2}, {0, 0, 0}, {0, 3, 4}, {3, 0, 1}, {4, 5, 6}, {3, 4, 0}, {6, 1, 1}, {1, 4, 3}} {
			x := binaryTo(op, 7, operands[0], operands[1])
			if op == impl.OpMux {
				x = muxTo(7, operands[0], operands[1], operands[2])
			}
			list := []impl.Stmt{inputOf(0, 0, 1), inputOf(1, 4, 3), inputOf(2, 2, 0), numberTo(3, 0), numberTo(4, 11), numberTo(5, 15), x, outOf(7), outOf(3)}
			checkOptimizedRun(t, list, append(inputSets(), madeInputs(op))...)
		}
	}
}

// Programs of all kinds of statements, with loops.
func TestSimplifyPrograms(t *testing.T) {
	programs := 0
	for seed := range 500 {
		if list := madeProgram(seed); len(unrolledOf(list)) <= maxUnrolled {
			checkOptimizedRun(t, list, madeInputs(seed), madeInputs(seed+1), sameInputs(maxNumber))
			programs++
		}
	}
	if programs < 300 {
		t.Errorf("%d programs were tried", programs)
	}
	for _, list := range [][]impl.Stmt{nil, {outOf(3)}, setsProgram(3, 31, 8), slices.Repeat([]impl.Stmt{outOf(0)}, maxStmts)} {
		checkOptimizedRun(t, list, inputSets()...)
	}
	for _, x := range []impl.Stmt{binaryTo(impl.OpMul, 1, 1, 2), binaryTo(impl.OpMul, 1, 2, 1), binaryTo(impl.OpLess, 1, 1, 2), muxTo(1, 2, 0, 1)} {
		last := slices.Concat(looped(7, slices.Repeat([]impl.Stmt{x}, 16)), []impl.Stmt{inputTo(1, 0), inputTo(2, 1), x, x, x, x, outOf(0), outOf(1)})
		checkOptimizedRun(t, last, madeInputs(4), sameInputs(7))
	}
}

// distinctCircuit returns a circuit of so many gates to which no rule applies: all
// inputs, and then the GtXor and GtAnd gates of their pairs.
func distinctCircuit(count int) impl.Circuit {
	c := inputsOf(countsFrom(0, maxBits-1)...)
	for b := range maxBits {
		for a := range b {
			c.Gates = append(c.Gates, xorGate(a, b), andGate(a, b))
		}
	}
	c.Gates = c.Gates[:count]
	return c
}

// Circuits with as many gates as there may be, of which all stay, nearly none,
// or all but a few.
func TestSimplifyManyGates(t *testing.T) {
	for _, count := range []int{maxGates - 1, maxGates} {
		distinct := distinctCircuit(count)
		last := count - 1
		for _, outs := range [][]int{nil, {0}, {last}, {last, 0, last}, countsFrom(0, last)} {
			c := impl.Circuit{Gates: distinct.Gates, Outs: outs}
			checkRewrittenTo(t, simplifying, c, c)
			checkSmaller(t, c)
			checkSmaller(t, impl.Circuit{Gates: largeCircuit(count).Gates, Outs: outs})
			checkSameValues(t, impl.Circuit{Gates: largeCircuit(count).Gates, Outs: outs}, madeBits(1), madeBits(2))
		}
		// The last gate is replaced by a constant, which is appended.
		checkRewrittenTo(t, simplifying, withGate(impl.Circuit{Gates: distinct.Gates, Outs: []int{last}}, last, xorGate(3, 3)), withGate(impl.Circuit{Gates: distinct.Gates, Outs: []int{last}}, last, constGate(0)))
		checkRewrittenTo(t, optimizing, withGate(impl.Circuit{Gates: distinct.Gates, Outs: []int{last}}, last, xorGate(3, 3)), impl.Circuit{Gates: []impl.Gate{constGate(0)}, Outs: []int{0}})
		negations, equal := []impl.Gate{inputGate(9)}, slices.Repeat([]impl.Gate{inputGate(9)}, count)
		for at := 1; at < count; at++ {
			negations = append(negations, notGate(at-1))
		}
		outs := []int{last, last - 1, 1, 0}
		checkRewrittenTo(t, simplifying, impl.Circuit{Gates: negations, Outs: outs}, impl.Circuit{Gates: gatesOf("i9 !0"), Outs: []int{last % 2, 1 - last%2, 1, 0}})
		checkRewrittenTo(t, pruning, impl.Circuit{Gates: negations, Outs: outs}, impl.Circuit{Gates: negations, Outs: outs})
		checkRewrittenTo(t, simplifying, impl.Circuit{Gates: equal, Outs: outs}, impl.Circuit{Gates: gatesOf("i9"), Outs: []int{0, 0, 0, 0}})
		checkRewrittenTo(t, pruning, impl.Circuit{Gates: equal, Outs: outs}, impl.Circuit{Gates: gatesOf("i9 i9 i9 i9"), Outs: []int{3, 2, 1, 0}})
	}
	for _, gates := range [][]impl.Gate{largeCircuit(maxGates + 1).Gates, distinctCircuit(maxGates + 1).Gates, slices.Repeat([]impl.Gate{constGate(1)}, maxGates+1)} {
		for _, outs := range [][]int{nil, {0}, {maxGates}, {0, 0, 5}} {
			checkNotRewritten(t, impl.Circuit{Gates: gates, Outs: outs})
		}
	}
}

// More outputs than there are gates.
func TestSimplifyManyOutputs(t *testing.T) {
	for _, count := range []int{100, maxGates + 1, 20000} {
		outs := []int{}
		for place := range count {
			outs = append(outs, place*place%5)
		}
		c := impl.Circuit{Gates: gatesOf("i0 1 0&1 2^1 !3 i7"), Outs: outs}
		checkSmaller(t, c)
		checkSameValues(t, c, bitSets()...)
	}
}

// Circuits that are not valid are returned as they are, also those to which rules
// would apply.
func TestSimplifyInvalidCircuits(t *testing.T) {
	for _, c := range wrongCircuits() {
		checkNotRewritten(t, c)
	}
	c := impl.Circuit{Gates: gatesOf("i0 i0 1 0^1 !0 !4 5&1 6^2"), Outs: []int{5, 6, 6, 3}}
	checkSmaller(t, c)
	for place := range c.Gates {
		for _, g := range wrongGates(place) {
			checkNotRewritten(t, withGate(c, place, g))
			checkNotRewritten(t, circuitOf(withGate(c, place, g).Gates...))
		}
	}
	for place := range c.Outs {
		for _, wire := range []int{-1, -8, len(c.Gates), len(c.Gates) + 1, maxGates, 1 << 32, math.MaxInt64, math.MinInt64} {
			checkNotRewritten(t, impl.Circuit{Gates: c.Gates, Outs: withNumber(c.Outs, place, wire)})
		}
	}
	for _, outs := range [][]int{{0}, {-1}, {0, 0}} {
		checkNotRewritten(t, impl.Circuit{Outs: outs})
		checkNotRewritten(t, impl.Circuit{Gates: []impl.Gate{}, Outs: append([]int{1}, outs...)})
	}
}

// sharedMemoryCircuits are circuits with and without gates that become others.
func sharedMemoryCircuits() []impl.Circuit {
	circuits := append(evalCircuits(), wrongCircuits()...)
	for _, text := range []string{"i0 i79 0^1", "i0 1 0&1 2^1 !3", "0 0 1 !2"} {
		gates := gatesOf(text)
		for _, outs := range outputLists(len(gates)) {
			circuits = append(circuits, impl.Circuit{Gates: gates, Outs: outs})
		}
	}
	return circuits
}

// No function writes into its lists or behind them, and what is behind them does
// not count.
func TestSimplifyLeavesTheLists(t *testing.T) {
	for _, c := range sharedMemoryCircuits() {
		gates, numbers, guarded, _ := guardedCircuit(c)
		gatesGiven, numbersGiven := slices.Clone(gates), slices.Clone(numbers)
		if validCircuit(c) {
			checkSmaller(t, guarded)
		} else {
			checkNotRewritten(t, guarded)
		}
		if !slices.Equal(gates, gatesGiven) || !slices.Equal(numbers, numbersGiven) {
			t.Errorf("the lists of %s were changed to %v and %v", briefCircuit(c), gates, numbers)
		}
	}
}

// What is returned is new memory, also where the circuit stays as it is: neither
// that of the circuit, nor that of another result.
func TestSimplifyResultsAreNew(t *testing.T) {
	for _, c := range sharedMemoryCircuits() {
		for _, f := range rewriters {
			gates, numbers, guarded, _ := guardedCircuit(c)
			gatesGiven, numbersGiven := slices.Clone(gates), slices.Clone(numbers)
			first, second := f.rewrite(guarded), f.rewrite(guarded)
			want := cloneCircuit(second)
			overwrite(first.Outs)
			overwriteGates(first.Gates)
			if !slices.Equal(gates, gatesGiven) || !slices.Equal(numbers, numbersGiven) {
				t.Errorf("the result of %s shares memory with %s", f.name, briefCircuit(c))
			}
			overwriteGates(gates)
			overwrite(numbers)
			if !sameCircuit(second, want) {
				t.Errorf("%s of %s: the result changed to %s", f.name, briefCircuit(c), briefCircuit(second))
			}
			if third := f.rewrite(cloneCircuit(c)); !sameCircuit(third, want) {
				t.Errorf("%s of %s = %s at the third time", f.name, briefCircuit(c), briefCircuit(third))
			}
		}
	}
}

// The same arguments have the same results again, whatever was called between.
func TestSimplifyAgain(t *testing.T) {
	mixed := impl.Circuit{Gates: gatesOf("i0 i1 0 1 0^1 1^0 4&5 !6 7^3 8^2"), Outs: []int{9, 7, 4}}
	simplified := impl.Circuit{Gates: gatesOf("i0 i1 0 1 0^1 !4"), Outs: []int{4, 5, 4}}
	optimized := impl.Circuit{Gates: gatesOf("i0 i1 0^1 !2"), Outs: []int{2, 3, 2}}
	for round := range 20 {
		for _, c := range append(wrongCircuits()[:60], crowdedCircuit(round, 100), madeCircuit(round, 50)) {
			for _, f := range rewriters {
				got := f.rewrite(c)
				overwriteGates(got.Gates)
				overwrite(got.Outs)
			}
			impl.LiveGates(c)
		}
		checkRewrittenTo(t, simplifying, mixed, simplified)
		checkRewrittenTo(t, pruning, mixed, mixed)
		checkRewrittenTo(t, optimizing, mixed, optimized)
		checkLive(t, mixed, 10)
		checkLive(t, simplified, 4)
	}
}
