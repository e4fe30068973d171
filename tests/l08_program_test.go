package tests

import (
	"math"
	"slices"
	"strings"
	"testing"

	"loop.example/g00979/impl"
)

const (
	maxRegs   = 8
	maxInputs = 4
	maxStmts  = 40
	maxLoop   = 8
	maxDepth  = 3
)

// span is a range of numbers, with both ends; the zero span is that of a field
// that a statement does not use.
type span struct{ low, high int }

var register = span{0, maxRegs - 1}

// form is the definition of the valid statements of one Op. The letters of
// read, which are the first ones of A, B and C, are those of the fields that
// name a register to be read.
type form struct {
	op              int
	dst, a, b, c, n span
	sets            bool
	read            string
}

// forms are those of all Ops, in the order of their numbers.
var forms = []form{
	{op: 1, dst: register, n: span{0, 15}, sets: true},
	{op: 2, dst: register, a: span{0, maxParties - 1}, n: span{0, maxInputs - 1}, sets: true},
	{op: 3, dst: register, a: register, b: register, sets: true, read: "AB"},
	{op: 4, dst: register, a: register, b: register, sets: true, read: "AB"},
	{op: 5, dst: register, a: register, b: register, sets: true, read: "AB"},
	{op: 6, dst: register, a: register, b: register, sets: true, read: "AB"},
	{op: 7, dst: register, a: register, b: register, sets: true, read: "AB"},
	{op: 8, dst: register, a: register, b: register, sets: true, read: "AB"},
	{op: 9, dst: register, a: register, b: register, sets: true, read: "AB"},
	{op: 10, dst: register, a: register, b: register, c: register, sets: true, read: "ABC"},
	{op: 11, a: register, read: "A"},
	{op: 12, n: span{1, maxLoop}},
	{op: 13},
}

// notOps are no Ops, also some whose low bits are one.
var notOps = []int{
	0, -1, -2, -13, 14, 15, 16, 100, 256, 257, 256 + 13, 65536 + 2, 1 << 32, 1<<32 + 3, 1<<32 + 12, -1 << 32, -1<<32 + 1, 1<<63 - 13,
	math.MaxInt64, math.MaxInt64 - 1, math.MinInt64, math.MinInt64 + 1, math.MinInt64 + 11,
}

// fieldNumbers are around the ends of the ranges of all fields, and far outside
// them, also numbers whose low bits are in a range.
var fieldNumbers = []int{
	-1, 0, 1, 2, 3, 4, 5, 6, 7, 8, 9, 14, 15, 16, 17, 40, -2, -7, -8, -16, 127, 128, 255, 256, 257, 65535, 65536, 65537,
	1<<31 - 1, 1 << 31, -1 << 31, 1<<32 - 1, 1 << 32, 1<<32 + 1, -1 << 32, -1<<32 + 1, 1 << 62,
	math.MaxInt64, math.MaxInt64 - 1, math.MinInt64, math.MinInt64 + 1, math.MinInt64 + 3,
}

// fewNumbers are enough of them to try all combinations of fields.
var fewNumbers = []int{-1, 0, 1, 3, 4, 5, 7, 8, 15, 16, math.MinInt64, math.MaxInt64}

// spans returns the ranges of the fields Dst, A, B, C and N.
func (f form) spans() []span { return []span{f.dst, f.a, f.b, f.c, f.n} }

// statement returns the statement with these numbers in Dst, A, B, C and N.
func statement(op int, numbers []int) impl.Stmt {
	return impl.Stmt{Op: op, Dst: numbers[0], A: numbers[1], B: numbers[2], C: numbers[3], N: numbers[4]}
}

// accepts is the definition of a valid statement of the form.
func (f form) accepts(numbers []int) bool {
	for i, s := range f.spans() {
		if numbers[i] < s.low || numbers[i] > s.high {
			return false
		}
	}
	return true
}

// reads is the definition of the registers that a valid statement reads.
func (f form) reads(s impl.Stmt) []int {
	return []int{s.A, s.B, s.C}[:len(f.read)]
}

// writes is the definition of the register that a valid statement sets.
func (f form) writes(s impl.Stmt) int {
	if f.sets {
		return s.Dst
	}
	return -1
}

// least returns the least numbers for the fields that the form accepts, and
// most the greatest ones.
func (f form) least() []int {
	numbers := []int{}
	for _, s := range f.spans() {
		numbers = append(numbers, s.low)
	}
	return numbers
}

func (f form) most() []int {
	numbers := []int{}
	for _, s := range f.spans() {
		numbers = append(numbers, s.high)
	}
	return numbers
}

// middle returns numbers of which those of the registers differ.
func (f form) middle() []int {
	numbers := []int{}
	for i, s := range f.spans() {
		numbers = append(numbers, max(s.low, s.high*(i+1)/6))
	}
	return numbers
}

// allValid returns all valid statements of the form.
func (f form) allValid() []impl.Stmt {
	lists := [][]int{{}}
	for _, s := range f.spans() {
		longer := [][]int{}
		for _, list := range lists {
			for number := s.low; number <= s.high; number++ {
				longer = append(longer, append(slices.Clone(list), number))
			}
		}
		lists = longer
	}
	statements := []impl.Stmt{}
	for _, list := range lists {
		statements = append(statements, statement(f.op, list))
	}
	return statements
}

// checkValid checks what the functions say of a valid statement of the form:
// also that all registers are in their range.
func checkValid(t *testing.T, f form, s impl.Stmt) {
	t.Helper()
	reads, writes := impl.ReadsOf(s), impl.WritesOf(s)
	if !impl.StmtOk(s) || !slices.Equal(reads, f.reads(s)) || writes != f.writes(s) {
		t.Errorf("%+v: valid %v, reads %v, writes %d", s, impl.StmtOk(s), reads, writes)
	}
	for _, r := range reads {
		if r < 0 || r >= maxRegs {
			t.Errorf("%+v reads %d", s, r)
		}
	}
	if writes < -1 || writes >= maxRegs {
		t.Errorf("%+v writes %d", s, writes)
	}
}

// checkInvalid checks that a statement is rejected, alone and as a program.
func checkInvalid(t *testing.T, s impl.Stmt) {
	t.Helper()
	reads, writes := impl.ReadsOf(s), impl.WritesOf(s)
	if impl.StmtOk(s) || len(reads) != 0 || writes != -1 {
		t.Errorf("%+v: valid %v, reads %v, writes %d", s, impl.StmtOk(s), reads, writes)
	}
	if impl.ProgramOk([]impl.Stmt{s}) || impl.PartiesOf([]impl.Stmt{s}) != 0 {
		t.Errorf("%+v is a program of %d parties", s, impl.PartiesOf([]impl.Stmt{s}))
	}
}

// checkStatement checks a statement of the form, valid or not.
func checkStatement(t *testing.T, f form, numbers []int) {
	t.Helper()
	if s := statement(f.op, numbers); f.accepts(numbers) {
		checkValid(t, f, s)
	} else {
		checkInvalid(t, s)
	}
}

func TestProgramLimits(t *testing.T) {
	limits := []int{impl.MaxRegs, impl.MaxInputs, impl.MaxStmts, impl.MaxLoop, impl.MaxDepth}
	if !slices.Equal(limits, []int{8, 4, 40, 8, 3}) {
		t.Error("a limit differs from the document", limits)
	}
	ops := []int{
		impl.OpConst, impl.OpInput, impl.OpAdd, impl.OpSub, impl.OpMul, impl.OpAnd, impl.OpXor,
		impl.OpLess, impl.OpEqual, impl.OpMux, impl.OpOut, impl.OpLoop, impl.OpEnd,
	}
	if !slices.Equal(ops, countsFrom(1, 13)) {
		t.Error("an Op differs from the document", ops)
	}
}

func TestStmt(t *testing.T) {
	cases := []struct {
		s      impl.Stmt
		reads  []int
		writes int
	}{
		{impl.Stmt{Op: impl.OpConst}, nil, 0},
		{impl.Stmt{Op: impl.OpConst, Dst: 7, N: 15}, nil, 7},
		{impl.Stmt{Op: impl.OpInput, Dst: 3, A: 4, N: 3}, nil, 3},
		{impl.Stmt{Op: impl.OpInput}, nil, 0},
		{impl.Stmt{Op: impl.OpAdd, Dst: 0, A: 0, B: 1}, []int{0, 1}, 0},
		{impl.Stmt{Op: impl.OpSub, Dst: 6, A: 7, B: 2}, []int{7, 2}, 6},
		{impl.Stmt{Op: impl.OpMul, Dst: 1, A: 1, B: 1}, []int{1, 1}, 1},
		{impl.Stmt{Op: impl.OpAnd, Dst: 2, A: 5, B: 4}, []int{5, 4}, 2},
		{impl.Stmt{Op: impl.OpXor}, []int{0, 0}, 0},
		{impl.Stmt{Op: impl.OpLess, Dst: 4, A: 3, B: 6}, []int{3, 6}, 4},
		{impl.Stmt{Op: impl.OpEqual, Dst: 7, A: 7, B: 7}, []int{7, 7}, 7},
		{impl.Stmt{Op: impl.OpMux, Dst: 5, A: 7, B: 0, C: 3}, []int{7, 0, 3}, 5},
		{impl.Stmt{Op: impl.OpMux, Dst: 0, A: 2, B: 2, C: 2}, []int{2, 2, 2}, 0},
		{impl.Stmt{Op: impl.OpMux, Dst: 1, A: 4, B: 1, C: 4}, []int{4, 1, 4}, 1},
		{impl.Stmt{Op: impl.OpOut}, []int{0}, -1},
		{impl.Stmt{Op: impl.OpOut, A: 7}, []int{7}, -1},
		{impl.Stmt{Op: impl.OpLoop, N: 1}, nil, -1},
		{impl.Stmt{Op: impl.OpLoop, N: 8}, nil, -1},
		{impl.Stmt{Op: impl.OpEnd}, nil, -1},
	}
	for _, c := range cases {
		reads, writes := impl.ReadsOf(c.s), impl.WritesOf(c.s)
		if !impl.StmtOk(c.s) || !slices.Equal(reads, c.reads) || writes != c.writes {
			t.Errorf("%+v: valid %v, reads %v, writes %d; want %v, %d", c.s, impl.StmtOk(c.s), reads, writes, c.reads, c.writes)
		}
	}
}

func TestStmtInvalid(t *testing.T) {
	for _, s := range []impl.Stmt{
		{},
		{Op: impl.OpConst, N: -1},
		{Op: impl.OpConst, N: 16},
		{Op: impl.OpConst, Dst: 8},
		{Op: impl.OpConst, Dst: -1},
		{Op: impl.OpConst, A: 1},
		{Op: impl.OpInput, A: 5},
		{Op: impl.OpInput, A: -1},
		{Op: impl.OpInput, N: 4},
		{Op: impl.OpInput, N: -1},
		{Op: impl.OpInput, B: 1},
		{Op: impl.OpAdd, A: 8},
		{Op: impl.OpAdd, B: 8},
		{Op: impl.OpAdd, Dst: 8},
		{Op: impl.OpAdd, C: 1},
		{Op: impl.OpAdd, N: 1},
		{Op: impl.OpMux, C: 8},
		{Op: impl.OpMux, N: 1},
		{Op: impl.OpOut, A: 8},
		{Op: impl.OpOut, Dst: 1},
		{Op: impl.OpOut, B: 1},
		{Op: impl.OpLoop},
		{Op: impl.OpLoop, N: 9},
		{Op: impl.OpLoop, N: -1},
		{Op: impl.OpLoop, N: 2, A: 1},
		{Op: impl.OpEnd, N: 1},
		{Op: impl.OpEnd, Dst: 1},
		{Op: impl.OpEnd + 1},
		{Op: -1},
	} {
		checkInvalid(t, s)
	}
}

// All valid statements: the registers are those that the definition names.
func TestAllValidStatements(t *testing.T) {
	for _, f := range forms {
		for _, s := range f.allValid() {
			checkValid(t, f, s)
		}
	}
}

// Each field in turn has a number at the edges of its range, outside it and far
// outside it, while all other fields are as the statement permits.
func TestEachFieldOfStatements(t *testing.T) {
	for _, f := range forms {
		for _, numbers := range [][]int{f.least(), f.middle(), f.most()} {
			if !f.accepts(numbers) {
				t.Fatalf("the form %+v does not accept %v", f, numbers)
			}
			for field := range numbers {
				for _, number := range fieldNumbers {
					checkStatement(t, f, withNumber(numbers, field, number))
				}
				for number := -70; number <= 70; number++ {
					checkStatement(t, f, withNumber(numbers, field, number))
				}
			}
		}
	}
}

// Two fields that are wrong do not make up for each other, also where one has
// the range of the other.
func TestPairsOfFieldsOfStatements(t *testing.T) {
	for _, f := range forms {
		for first := range 5 {
			for second := range first {
				for _, a := range fieldNumbers {
					for _, b := range fieldNumbers {
						checkStatement(t, f, withNumber(withNumber(f.middle(), first, a), second, b))
					}
				}
			}
		}
	}
}

// All combinations of fields that are in their ranges or just outside them.
func TestAllFieldsOfStatements(t *testing.T) {
	for _, f := range forms {
		for number := range power(len(fewNumbers), 5) {
			numbers := []int{}
			for _, digit := range digitsOf(len(fewNumbers), 5, number) {
				numbers = append(numbers, fewNumbers[digit])
			}
			s := statement(f.op, numbers)
			if ok := impl.StmtOk(s); ok != f.accepts(numbers) {
				t.Fatalf("StmtOk(%+v) = %v", s, ok)
			}
		}
	}
}

// Statements that would be valid with another Op are not valid with no Op.
func TestNoOp(t *testing.T) {
	for _, op := range notOps {
		checkInvalid(t, impl.Stmt{Op: op})
		for _, f := range forms {
			for _, numbers := range [][]int{f.least(), f.middle(), f.most()} {
				checkInvalid(t, statement(op, numbers))
			}
		}
		for field := range 5 {
			for _, number := range fieldNumbers {
				checkInvalid(t, statement(op, withNumber(make([]int, 5), field, number)))
			}
		}
	}
	for op := -300; op <= 300; op++ {
		s := impl.Stmt{Op: op, N: 1}
		want := op == impl.OpConst || op == impl.OpInput || op == impl.OpLoop
		if got := impl.StmtOk(s); got != want {
			t.Errorf("StmtOk(%+v) = %v", s, got)
		}
	}
}

// stmtOf returns the statement for a letter: ( and ) are a loop and its end.
func stmtOf(letter byte) impl.Stmt {
	switch letter {
	case '(':
		return impl.Stmt{Op: impl.OpLoop, N: 2}
	case '[':
		return impl.Stmt{Op: impl.OpLoop, N: 8}
	case ')':
		return impl.Stmt{Op: impl.OpEnd}
	case 'o':
		return impl.Stmt{Op: impl.OpOut, A: 7}
	case 'm':
		return impl.Stmt{Op: impl.OpMux, Dst: 7, A: 6, B: 5, C: 4}
	case 'c':
		return impl.Stmt{Op: impl.OpConst, Dst: 1, N: 15}
	case '0', '1', '2', '3', '4':
		return impl.Stmt{Op: impl.OpInput, A: int(letter - '0'), N: 3}
	case 'x':
		return impl.Stmt{Op: impl.OpAdd, Dst: 1, A: 7, B: 6}
	}
	// No letter of a statement: one that is not valid.
	return impl.Stmt{Op: impl.OpConst, N: 16}
}

// programOf returns the list of the statements for the letters of a text.
func programOf(text string) []impl.Stmt {
	list := []impl.Stmt{}
	for i := range len(text) {
		list = append(list, stmtOf(text[i]))
	}
	return list
}

// nestingOf is the definition of the depth of the loops of a text: that is how
// often the innermost ones can be taken out until none are left, or -1 if
// something remains that is not matched.
func nestingOf(text string) int {
	rest := strings.Map(func(r rune) rune {
		switch r {
		case '(', ')':
			return r
		case '[':
			return '('
		}
		return -1
	}, text)
	depth := 0
	for strings.Contains(rest, "()") {
		rest = strings.ReplaceAll(rest, "()", "")
		depth++
	}
	if rest != "" {
		return -1
	}
	return depth
}

// checkProgram checks whether the statements of a text are a program.
func checkProgram(t *testing.T, text string, want bool) {
	t.Helper()
	if got := impl.ProgramOk(programOf(text)); got != want {
		t.Errorf("ProgramOk of %q = %v", text, got)
	}
}

func TestProgramOk(t *testing.T) {
	if !impl.ProgramOk(nil) || !impl.ProgramOk([]impl.Stmt{}) {
		t.Error("the empty list is not a program")
	}
	for _, text := range []string{
		"", "x", "c0xo", "()", "(x)", "[x)", "x(x)x", "()()", "(())", "((()))", "(x(x(x)x)x)", "((()()()))", "((()))((()))", "()(())((()))",
		"01(x)o", "((()())())", "[(m))", "[[[c)))", strings.Repeat("()", 20), strings.Repeat("((()))", 6) + "(())",
	} {
		checkProgram(t, text, true)
	}
	for _, text := range []string{
		"(", ")", ")(", "x)", "(x", "(()", "())", "())(", "()(", "())()(", "(((", ")))", "(((())))", "x((((x))))x", "((()(())))", "()((()))(((())))",
		"!", "x!", "!x", "(!)", "()!", "!()", "x(x", "x)x", ")x(", "((x)", "(x))", ")()", "()())", "(()()",
	} {
		checkProgram(t, text, false)
	}
}

// All lists of loops, ends and other statements up to a length.
func TestProgramOkOfAllShortLists(t *testing.T) {
	for length := range 10 {
		for number := range power(3, length) {
			text := []byte{}
			for _, digit := range digitsOf(3, length, number) {
				text = append(text, "()x"[digit])
			}
			depth := nestingOf(string(text))
			checkProgram(t, string(text), depth >= 0 && depth <= maxDepth)
		}
	}
}

// Every nesting of loops, also of many, with other statements at every place.
func TestNestedLoops(t *testing.T) {
	for depth := range maxStmts/2 + 2 {
		loops, ends := strings.Repeat("(", depth), strings.Repeat(")", depth)
		fits := depth <= maxDepth
		checkProgram(t, loops+ends, fits)
		checkProgram(t, strings.Repeat("[", depth)+ends, fits)
		checkProgram(t, ends+loops, depth == 0)
		checkProgram(t, loops+"x"+ends, fits)
		checkProgram(t, loops+ends+")", false)
		checkProgram(t, ")"+loops+ends, false)
		checkProgram(t, "("+loops+ends, false)
		checkProgram(t, loops+ends+"(", false)
		checkProgram(t, loops+"()"+ends, depth < maxDepth)
		checkProgram(t, loops+"()()"+ends, depth < maxDepth)
		checkProgram(t, "()"+loops+ends+"()", fits)
		if depth > 0 {
			checkProgram(t, loops+ends[1:], false)
			checkProgram(t, loops[1:]+ends, false)
		}
		for place := range 2*depth + 1 {
			text := loops + ends
			checkProgram(t, text[:place]+"o"+text[place:], fits)
			checkProgram(t, text[:place]+"!"+text[place:], false)
		}
	}
}

// Programs have up to MaxStmts statements, whatever these are; the limit is
// that of the list and not of the statements that are performed.
func TestProgramLengths(t *testing.T) {
	for length := range 2*maxStmts + 3 {
		fits := length <= maxStmts
		for _, letter := range "xcom0" {
			checkProgram(t, strings.Repeat(string(letter), length), fits)
		}
		if length >= 2 {
			checkProgram(t, "["+strings.Repeat("x", length-2)+")", fits)
			checkProgram(t, strings.Repeat("x", length-2)+"()", fits)
		}
		if length >= 6 {
			checkProgram(t, "[[["+strings.Repeat("x", length-6)+")))", fits)
		}
		if length%2 == 0 {
			checkProgram(t, strings.Repeat("()", length/2), fits)
		}
	}
	for _, length := range []int{256, 257, 296, 65536, 65536 + maxStmts} {
		checkProgram(t, strings.Repeat("x", length), false)
	}
}

// A program of every length with one statement that is not valid, or with one
// loop or end that has no match, at every position.
func TestProgramWithOneWrongStatement(t *testing.T) {
	wrong := []impl.Stmt{
		{}, {Op: -1}, {Op: impl.OpEnd + 1}, {Op: math.MinInt64}, {Op: math.MaxInt64}, {Op: impl.OpConst, N: -1}, {Op: impl.OpInput, A: maxParties},
		{Op: impl.OpAdd, C: 1}, {Op: impl.OpMux, C: maxRegs}, {Op: impl.OpOut, A: -1}, {Op: impl.OpOut, Dst: 1}, {Op: impl.OpLoop},
		{Op: impl.OpLoop, N: maxLoop + 1}, {Op: impl.OpEnd, N: 1},
	}
	for length := 1; length <= maxStmts; length++ {
		for _, letters := range []string{"xcom04", "x()cmo", "(x)o1m"} {
			text := strings.Repeat(letters, maxStmts)[:length]
			// The last loop may have been cut off from its end.
			if nestingOf(text) < 0 {
				continue
			}
			checkProgram(t, text, true)
			for position := range length {
				for _, s := range wrong {
					checkWrongAt(t, text, position, s)
				}
				if !strings.Contains("()", text[position:position+1]) {
					checkWrongAt(t, text, position, stmtOf('('))
					checkWrongAt(t, text, position, stmtOf(')'))
				}
			}
		}
	}
}

// checkWrongAt checks that the statements of a text, of which the one at a
// position is replaced, are no program and have no parties.
func checkWrongAt(t *testing.T, text string, position int, s impl.Stmt) {
	t.Helper()
	list := programOf(text)
	list[position] = s
	if impl.ProgramOk(list) || impl.PartiesOf(list) != 0 {
		t.Errorf("%q with %+v at %d is a program of %d parties", text, s, position, impl.PartiesOf(list))
	}
}

// An end or a loop that is not valid does not match another, nor does it stay
// unnoticed where it is too many.
func TestInvalidLoops(t *testing.T) {
	loop, end, x := stmtOf('('), stmtOf(')'), stmtOf('x')
	for _, field := range countsFrom(0, 4) {
		for _, number := range fieldNumbers {
			badEnd := statement(impl.OpEnd, withNumber(make([]int, 5), field, number))
			badLoop := statement(impl.OpLoop, withNumber([]int{0, 0, 0, 0, 1}, field, number))
			wantEnd := number == 0
			wantLoop := number == 0 && field < 4 || field == 4 && number >= 1 && number <= maxLoop
			for _, body := range [][]impl.Stmt{nil, {x}, {loop, end}, {loop, loop, end, end}} {
				ended := slices.Concat([]impl.Stmt{loop}, body, []impl.Stmt{badEnd})
				looped := slices.Concat([]impl.Stmt{badLoop}, body, []impl.Stmt{end})
				if impl.ProgramOk(ended) != wantEnd || impl.ProgramOk(looped) != wantLoop {
					t.Errorf("ProgramOk with %d in field %d = %v, %v", number, field, impl.ProgramOk(ended), impl.ProgramOk(looped))
				}
			}
		}
	}
}

// checkParties checks the number of parties of the statements of a text.
func checkParties(t *testing.T, text string, want int) {
	t.Helper()
	if got := impl.PartiesOf(programOf(text)); got != want {
		t.Errorf("PartiesOf of %q = %d; want %d", text, got, want)
	}
}

func TestPartiesOf(t *testing.T) {
	if impl.PartiesOf(nil) != 0 || impl.PartiesOf([]impl.Stmt{}) != 0 {
		t.Error("the empty program has parties")
	}
	cases := []struct {
		text string
		want int
	}{
		{"x", 0}, {"o", 0}, {"m", 0}, {"c", 0}, {"xcom", 0}, {"(xm)o", 0}, {"[[[x)))", 0},
		{"0", 1}, {"1", 2}, {"2", 3}, {"3", 4}, {"4", 5},
		{"01", 2}, {"10", 2}, {"43210", 5}, {"01234", 5}, {"030", 4}, {"00", 1}, {"44", 5},
		{"(3)", 4}, {"[3)1", 4}, {"1(3)", 4}, {"0((2))", 3}, {"(((4)))", 5}, {"((1)0(2))o", 3},
		{"x0m1o", 2}, {"x4", 5}, {"4x", 5},
		{strings.Repeat("x", maxStmts-1) + "4", 5}, {"4" + strings.Repeat("x", maxStmts-1), 5}, {strings.Repeat("2", maxStmts), 3},
		{"4(", 0}, {"4)", 0}, {"(4", 0}, {")4", 0}, {"((((4))))", 0}, {"4((((x))))", 0}, {")4(", 0}, {"4!", 0}, {"!4", 0}, {"(4!)", 0},
		{strings.Repeat("x", maxStmts) + "4", 0}, {"4" + strings.Repeat("x", maxStmts), 0}, {strings.Repeat("2", maxStmts+1), 0},
	}
	for _, c := range cases {
		checkParties(t, c.text, c.want)
	}
}

// All short lists of inputs, loops and ends: only programs have parties.
func TestPartiesOfAllShortLists(t *testing.T) {
	for length := range 7 {
		for number := range power(6, length) {
			text, want := []byte{}, 0
			for _, digit := range digitsOf(6, length, number) {
				text = append(text, "()x034"[digit])
				if letter := text[len(text)-1]; letter >= '0' && letter <= '4' {
					want = max(want, int(letter-'0')+1)
				}
			}
			if depth := nestingOf(string(text)); depth < 0 || depth > maxDepth {
				want = 0
			}
			checkParties(t, string(text), want)
		}
	}
}

// The parties are those of the inputs only: the same number as a register of
// another statement, or as the number of an input, is no party.
func TestPartiesAreThoseOfInputs(t *testing.T) {
	for _, f := range forms[:11] {
		for _, s := range f.allValid() {
			want := 0
			if s.Op == impl.OpInput {
				want = s.A + 1
			}
			if got := impl.PartiesOf([]impl.Stmt{s}); got != want {
				t.Errorf("PartiesOf of %+v = %d; want %d", s, got, want)
			}
		}
	}
}

// The registers are new memory: what the caller writes into them, or behind
// them, is not seen by another call.
func TestReadsAreNew(t *testing.T) {
	for _, f := range forms {
		s := statement(f.op, f.most())
		first, second := impl.ReadsOf(s), impl.ReadsOf(s)
		first = first[:cap(first)]
		for i := range first {
			first[i] = -9
		}
		if third := impl.ReadsOf(s); !slices.Equal(second, f.reads(s)) || !slices.Equal(third, f.reads(s)) {
			t.Errorf("the registers %v, %v of %+v share memory with others", second, third, s)
		}
	}
}

// No function writes into the list that it is given, or behind it.
func TestProgramFunctionsLeaveTheList(t *testing.T) {
	for _, text := range []string{"", "x", "0(1)o", "((()))", "(((())))", "(", ")", "4!m", "!", strings.Repeat("x", maxStmts), strings.Repeat("4", maxStmts+1)} {
		guarded := programOf("!" + text + "2)(!")
		before := slices.Clone(guarded)
		given := guarded[1 : 1+len(text)]
		for range 3 {
			impl.ProgramOk(given)
			impl.PartiesOf(given)
		}
		if !slices.Equal(guarded, before) {
			t.Errorf("the list of %q was changed to %+v", text, guarded)
		}
	}
}

// What is behind the list does not count, whether it would match or not.
func TestProgramEndsWithItsList(t *testing.T) {
	whole := programOf("0(1)2()!)")
	for length, want := range []int{0, 1, 0, 0, 2, 3, 0, 3, 0, 0} {
		if got := impl.PartiesOf(whole[:length]); got != want || impl.ProgramOk(whole[:length]) != (want > 0 || length == 0) {
			t.Errorf("the first %d statements have %d parties; want %d", length, got, want)
		}
	}
}

// The same arguments have the same results again, whatever was called between.
func TestProgramsAgain(t *testing.T) {
	mux := stmtOf('m')
	for range 20 {
		for _, text := range []string{"(", ")", "!", "((((", "4(", strings.Repeat("(", maxStmts)} {
			checkProgram(t, text, false)
			checkParties(t, text, 0)
			impl.ReadsOf(stmtOf('!'))
			checkProgram(t, "2((x))o", true)
			checkParties(t, "2((x))o", 3)
			if !slices.Equal(impl.ReadsOf(mux), []int{6, 5, 4}) || impl.WritesOf(mux) != 7 {
				t.Error("the registers differ", impl.ReadsOf(mux), impl.WritesOf(mux))
			}
		}
	}
}
