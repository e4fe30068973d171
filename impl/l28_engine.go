package impl

type Engine struct {
	Keys    Keys
	Circuit Arith
	Values  []Auth
	Opened  []int
	Round   int
	Bad     bool
}

// EngineNew returns an engine with these keys and this circuit, Round 0, nothing opened and Bad
// not set, and true. The value of each SpInput step is AuthNew of its input, with the tape
// TapeFork(t, index of the step); the value of each SpConst step is AuthConst of the zero value
// (all Shares and Macs 0) and the constant; and the values of SpAdd steps are computed as
// described for EngineRound. It returns the zero Engine and false if k or c is not valid, the
// fields differ, inputs does not have MaxSteps elements of the field, or t is not valid or its At
// is greater than 900000.
func EngineNew(k Keys, c Arith, inputs []int, t Tape) (Engine, bool) { return Engine{}, false }

// EngineOk reports whether e is valid: Keys and Circuit are valid and have the same field; there
// is one element of Values for each step, and each of them is the zero Auth or has as many Shares
// and Macs as there are Alphas, all of them elements of the field; and Round is in the range 0 to
// MaxSteps (which values are there for which Round is not looked at).
func EngineOk(e Engine) bool { return false }

// EngineRound performs one round. Its steps are MulsAt of Circuit for depth Round+1, in ascending
// order. For the step with number j among them, the triple at index j is used: the parties open D
// and E (TripleOpen), to which the errors at the indices 2*j and 2*j+1 are added (FAdd; an error
// is 0 if errors has no such index), and append both to Opened. If MacCheck is false for D and
// the value of A minus that of A of the triple, or for E likewise, Bad is set. The value of the
// step is TripleUse with the opened D and E. Then the values of all SpAdd steps that are not
// computed yet, and both of whose operands are computed, are computed by AuthAdd, in ascending
// order; and Round is incremented. It returns e unchanged if e is not valid, Bad is set, Round is
// not less than RoundsOf(Circuit), there are less triples than steps, a needed triple does not
// have the form that AuthAdd requires, a needed operand is not computed, or one of the errors,
// also one that the round does not use, is not an element.
func EngineRound(e Engine, triples []Triple, errors []int) Engine { return Engine{} }

// EngineOutputs opens the outputs: it returns the values (FSum of Shares) of Outs, in order, and
// true. It returns nil and false if e is not valid, Bad is set, or one of the outputs is not
// computed or does not satisfy MacCheck.
func EngineOutputs(e Engine) ([]int, bool) { return []int{}, false }

// EngineRun performs EngineNew with TapeFork(t, 1), and then EngineRound until Round is
// RoundsOf(c) or Bad is set, where the triples are those that TripleNew returns with the tape
// TapeFork(t, 2), one after the other, for all rounds together, and errors are used in the same
// way: each round uses the next two elements for each of its steps. It returns EngineOutputs of
// the engine, or nil and false if EngineNew returns false, one of the errors is not an element, t
// is not valid, or At of t is greater than 900000.
func EngineRun(k Keys, c Arith, inputs []int, t Tape, errors []int) ([]int, bool) {
	return []int{}, false
}
