package tests

import (
	"fmt"
	"math"
	"slices"
	"strconv"
	"strings"
	"testing"

	"loop.example/g00979/impl"
)

const maxInputLen = 20000

// binaryWords are the words of the Ops from OpAdd to OpEqual.
var binaryWords = []string{"add", "sub", "mul", "and", "xor", "less", "equal"}

// languageWords are the words of all Ops, in the order of their numbers.
var languageWords = slices.Concat([]string{"const", "input"}, binaryWords, []string{"mux", "out", "loop", "end"})

// wrongLines are lines that are not empty and not statements.
var wrongLines = []string{
	" ", "  ", "\t", "\r", "\x00", "x", "end ", " end", "end\r", "end\t", "end 0", "End", "END", "end.", "end;", "endend", "end end", "en", "\xff",
	"out", "out ", "out r", "out 0", "out p0", "out r8", "out r0 ", " out r0", "out  r0", "out\tr0", "out r0\r", "out r00", "out r-1", "out r0 r1", "out R0", "outr0",
	"loop", "loop 0", "loop 9", "loop 01", "loop +1", "loop -1", "loop r1", "loop 1 1", "loop 1x", "loop 10", "loop 18446744073709551617",
	"const r0", "const r0 16", "const r0 -1", "const 0 0", "const r0 r0", "const r0  0", "const r0 0 0", "const r8 0", "const r0 015",
	"input r0 0 0", "input r0 r0 0", "input r0 p0", "input r0 p5 0", "input r0 p0 4", "input r0 p0 p0", "input p0 r0 0", "input r0 0", "input r0 P0 0",
	"add r0 r1", "add r0 r1 r2 r3", "add r0 r1 r8", "add r0 r8 r1", "add r8 r0 r1", "add r0 1 r2", "add r0, r1, r2", "add r0 r1 r", "add r0 r1  r2",
	"mux r0 r1 r2", "mux r0 r1 r2 r8", "mux r0 r1 r2 r3 r4", "mux r0 r1 r2 3", "mux  r0 r1 r2 r3", "not r0 r1", "# end", "//", "-1", "0", "r0", "p0",
}

// lineOf is the definition of the text of a valid statement.
func lineOf(s impl.Stmt) string {
	switch s.Op {
	case impl.OpConst:
		return fmt.Sprintf("const r%d %d", s.Dst, s.N)
	case impl.OpInput:
		return fmt.Sprintf("input r%d p%d %d", s.Dst, s.A, s.N)
	case impl.OpMux:
		return fmt.Sprintf("mux r%d r%d r%d r%d", s.Dst, s.A, s.B, s.C)
	case impl.OpOut:
		return fmt.Sprintf("out r%d", s.A)
	case impl.OpLoop:
		return fmt.Sprintf("loop %d", s.N)
	case impl.OpEnd:
		return "end"
	}
	return fmt.Sprintf("%s r%d r%d r%d", binaryWords[s.Op-impl.OpAdd], s.Dst, s.A, s.B)
}

// linesOf returns the texts of valid statements.
func linesOf(list []impl.Stmt) []string {
	lines := []string{}
	for _, s := range list {
		lines = append(lines, lineOf(s))
	}
	return lines
}

// textOf is the definition of the text of a program.
func textOf(list []impl.Stmt) string {
	text := ""
	for _, line := range linesOf(list) {
		text += line + "\n"
	}
	return text
}

// allStatements returns all valid statements.
func allStatements() []impl.Stmt {
	list := []impl.Stmt{}
	for _, f := range forms {
		list = append(list, f.allValid()...)
	}
	return list
}

// allLines returns the statement of each line that has one.
func allLines() map[string]impl.Stmt {
	lines := map[string]impl.Stmt{}
	for _, s := range allStatements() {
		lines[lineOf(s)] = s
	}
	return lines
}

// someLines returns the texts of a few statements of every form.
func someLines() []string {
	lines := []string{}
	for _, f := range forms {
		for _, numbers := range [][]int{f.least(), f.middle(), f.most()} {
			lines = append(lines, lineOf(statement(f.op, numbers)))
		}
	}
	return lines
}

// checkLine checks the statement of a line, if it has one among all lines.
func checkLine(t *testing.T, lines map[string]impl.Stmt, line string) {
	t.Helper()
	want, valid := lines[line]
	if got, ok := impl.ParseStmt(line); got != want || ok != valid {
		t.Errorf("ParseStmt(%.100q) = %+v, %v; want %+v, %v", line, got, ok, want, valid)
	}
}

// checkNoLine checks that a line has no statement.
func checkNoLine(t *testing.T, line string) {
	t.Helper()
	checkLine(t, nil, line)
}

// checkNoText checks that an invalid statement has no text.
func checkNoText(t *testing.T, s impl.Stmt) {
	t.Helper()
	if text, ok := impl.FormatStmt(s); text != "" || ok {
		t.Errorf("FormatStmt(%+v) = %q, %v", s, text, ok)
	}
}

func TestStmtAsText(t *testing.T) {
	cases := []struct {
		s    impl.Stmt
		text string
	}{
		{impl.Stmt{Op: impl.OpConst}, "const r0 0"},
		{impl.Stmt{Op: impl.OpConst, Dst: 7, N: 15}, "const r7 15"},
		{impl.Stmt{Op: impl.OpInput, Dst: 0, A: 1, N: 2}, "input r0 p1 2"},
		{impl.Stmt{Op: impl.OpInput, Dst: 6, A: 4, N: 3}, "input r6 p4 3"},
		{impl.Stmt{Op: impl.OpAdd, Dst: 1, A: 2, B: 3}, "add r1 r2 r3"},
		{impl.Stmt{Op: impl.OpSub, Dst: 3, A: 2, B: 1}, "sub r3 r2 r1"},
		{impl.Stmt{Op: impl.OpMul, Dst: 4, A: 4, B: 4}, "mul r4 r4 r4"},
		{impl.Stmt{Op: impl.OpAnd, Dst: 0, A: 7, B: 6}, "and r0 r7 r6"},
		{impl.Stmt{Op: impl.OpXor, Dst: 5, A: 0, B: 7}, "xor r5 r0 r7"},
		{impl.Stmt{Op: impl.OpLess, Dst: 2, A: 6, B: 5}, "less r2 r6 r5"},
		{impl.Stmt{Op: impl.OpEqual, Dst: 7, A: 1, B: 0}, "equal r7 r1 r0"},
		{impl.Stmt{Op: impl.OpMux, Dst: 1, A: 2, B: 3, C: 4}, "mux r1 r2 r3 r4"},
		{impl.Stmt{Op: impl.OpMux, Dst: 7, A: 6, B: 5, C: 0}, "mux r7 r6 r5 r0"},
		{impl.Stmt{Op: impl.OpOut}, "out r0"},
		{impl.Stmt{Op: impl.OpOut, A: 7}, "out r7"},
		{impl.Stmt{Op: impl.OpLoop, N: 1}, "loop 1"},
		{impl.Stmt{Op: impl.OpLoop, N: 8}, "loop 8"},
		{impl.Stmt{Op: impl.OpEnd}, "end"},
	}
	for _, c := range cases {
		if text, ok := impl.FormatStmt(c.s); text != c.text || !ok {
			t.Errorf("FormatStmt(%+v) = %q, %v; want %q", c.s, text, ok, c.text)
		}
		if s, ok := impl.ParseStmt(c.text); s != c.s || !ok {
			t.Errorf("ParseStmt(%q) = %+v, %v; want %+v", c.text, s, ok, c.s)
		}
	}
}

// Every valid statement has the text of the definition, and that text has the
// statement; no two statements have the same text.
func TestAllStatementsAsText(t *testing.T) {
	statements, lines := allStatements(), allLines()
	if len(lines) != len(statements) {
		t.Fatal("two statements have the same text")
	}
	for _, s := range statements {
		text, ok := impl.FormatStmt(s)
		if text != lineOf(s) || !ok {
			t.Errorf("FormatStmt(%+v) = %q, %v; want %q", s, text, ok, lineOf(s))
		}
		if got, ok := impl.ParseStmt(text); got != s || !ok {
			t.Errorf("ParseStmt(%q) = %+v, %v; want %+v", text, got, ok, s)
		}
	}
}

// Each field in turn and each pair of fields has numbers in its range and
// outside it: only valid statements have a text.
func TestTextOfStatementsWithAnyFields(t *testing.T) {
	check := func(f form, numbers []int) {
		s := statement(f.op, numbers)
		if !f.accepts(numbers) {
			checkNoText(t, s)
		} else if text, ok := impl.FormatStmt(s); text != lineOf(s) || !ok {
			t.Errorf("FormatStmt(%+v) = %q, %v", s, text, ok)
		}
	}
	for _, f := range forms {
		for _, numbers := range [][]int{f.least(), f.middle(), f.most()} {
			for first := range 5 {
				for _, a := range fieldNumbers {
					check(f, withNumber(numbers, first, a))
					for second := range first {
						for _, b := range fewNumbers {
							check(f, withNumber(withNumber(numbers, first, a), second, b))
						}
					}
				}
			}
		}
	}
}

func TestNoTextWithoutOp(t *testing.T) {
	checkNoText(t, impl.Stmt{})
	for _, op := range notOps {
		checkNoText(t, impl.Stmt{Op: op})
		for _, f := range forms {
			checkNoText(t, statement(op, f.least()))
			checkNoText(t, statement(op, f.most()))
		}
	}
}

func TestWrongLines(t *testing.T) {
	checkNoLine(t, "")
	for _, line := range wrongLines {
		checkNoLine(t, line)
	}
	for _, line := range []string{
		"input r0  p1 2", "input  r0 p1 2", "input r0 p1  2", " input r0 p1 2", "input r0 p1 2 ", "input r0 p1 2\n", "\ninput r0 p1 2", "input\nr0 p1 2",
		"input r0 p1\t2", "input\tr0 p1 2", "\tinput r0 p1 2", "input r0 p1 2\t", "input r0 p1 2\r", "input r0 p1 2\x00", "input\u00a0r0 p1 2", "input r0 p1 ２",
		"Input r0 p1 2", "INPUT R0 P1 2", "inputr0p12", "input r0p1 2", "input r 0 p 1 2", "input r0 p1 two", "input r0 p1 0x2", "input r0 p1 2.0", "input r0 p1 2e0",
		"loop 1\nend", "end\n", "\nend", "\n", "out r0\nout r1",
	} {
		checkNoLine(t, line)
	}
}

// A byte more, a byte less or another byte makes a line wrong, or the line of
// another statement.
func TestLinesWithOneOtherByte(t *testing.T) {
	lines := allLines()
	for _, line := range someLines() {
		for i := range len(line) + 1 {
			before, after := line[:i], line[i:]
			checkLine(t, lines, before)
			checkLine(t, lines, after)
			for b := range 256 {
				checkLine(t, lines, before+string([]byte{byte(b)})+after)
				if after != "" {
					checkLine(t, lines, before+string([]byte{byte(b)})+after[1:])
				}
			}
			if after != "" {
				checkLine(t, lines, before+after[1:])
			}
		}
	}
}

// Two bytes more, or two neighbouring bytes in the other order.
func TestLinesWithTwoOtherBytes(t *testing.T) {
	lines := allLines()
	for _, line := range someLines() {
		for i := range len(line) + 1 {
			for _, more := range []string{"  ", " 0", "0 ", "r0", " r", "p0", " p", "\r\n", "00", "-0", "+0", " \t"} {
				checkLine(t, lines, line[:i]+more+line[i:])
			}
			if i+2 <= len(line) {
				checkLine(t, lines, line[:i]+line[i+1:i+2]+line[i:i+1]+line[i+2:])
			}
		}
	}
}

// No other white space at any place of any statement, and no upper case.
func TestAllLinesWithOtherSpaces(t *testing.T) {
	for _, s := range allStatements() {
		line := lineOf(s)
		for i := range len(line) + 1 {
			checkNoLine(t, line[:i]+"\t"+line[i:])
			checkNoLine(t, line[:i]+"\r"+line[i:])
			if i == 0 || i == len(line) || line[i] == ' ' || line[i-1] == ' ' {
				checkNoLine(t, line[:i]+" "+line[i:])
			}
			if upper := line[:i] + strings.ToUpper(line[i:]); upper != line {
				checkNoLine(t, upper)
			}
		}
		checkNoLine(t, strings.ReplaceAll(" "+line, " ", "  "))
		checkNoLine(t, " "+line+" ")
	}
}

// Every word with every list of up to three arguments out of many, and of up to
// six arguments out of few: the number of arguments, their marks and their
// numbers have to be those of the word.
func TestLinesOfAllArguments(t *testing.T) {
	lines := allLines()
	many := []string{"r0", "r1", "r7", "r8", "r", "R0", "r00", "r+1", "p0", "p4", "p5", "p", "p01", "0", "1", "3", "4", "8", "9", "15", "16", "-0", "-1", "+1", "01", "", "x", "end"}
	few := []string{"r2", "p3", "3", "r8"}
	words := slices.Concat(languageWords, []string{"", "not", "or", "r0", "p0", "1", "Add", "adds", "ad", "endloop"})
	for _, word := range words {
		for count := range 4 {
			checkArguments(t, lines, word, many, count)
		}
		for count := range 7 {
			checkArguments(t, lines, word, few, count)
		}
	}
}

// checkArguments checks the lines of a word and each list of arguments of one
// length.
func checkArguments(t *testing.T, lines map[string]impl.Stmt, word string, arguments []string, count int) {
	t.Helper()
	for number := range power(len(arguments), count) {
		line := word
		for _, digit := range digitsOf(len(arguments), count, number) {
			line += " " + arguments[digit]
		}
		checkLine(t, lines, line)
	}
}

// numberTexts returns texts of numbers, also of very long ones and of those
// that other ways to read numbers accept.
func numberTexts() []string {
	texts := []string{
		"", "-", "+", "00", "01", "001", "007", "-0", "+0", "+1", "+7", "1.", "1.0", ".1", "1e0", "0x1", "0b1", "0o1", "1_0", "١", "１", "a", "one", "1a", "a1", " 1", "1 ",
		"1,", "1;", "1\x00", "18446744073709551616", "18446744073709551617", "18446744073709551623", "9223372036854775808", "-9223372036854775809", "4294967297", "4294967303",
		strings.Repeat("0", 100), strings.Repeat("0", 100) + "1", strings.Repeat("1", 100), strings.Repeat("9", 590), strings.Repeat("7", 1000), strings.Repeat("0", maxInputLen) + "2",
	}
	for number := range 300 {
		texts = append(texts, strconv.Itoa(number))
	}
	for _, number := range fieldNumbers {
		texts = append(texts, strconv.Itoa(number))
	}
	return texts
}

// Each argument in turn has every number, with every mark, also with a wrong
// one or more than one.
func TestLinesWithOneOtherNumber(t *testing.T) {
	lines, numbers := allLines(), numberTexts()
	for _, line := range someLines() {
		fields := strings.Split(line, " ")
		for i := range fields {
			for _, mark := range []string{"r", "p", "", "R", "P", "q", "rr", "pp", "rp", "pr", "r ", "p ", "-r", "%"} {
				for _, number := range numbers {
					changed := slices.Clone(fields)
					changed[i] = mark + number
					checkLine(t, lines, strings.Join(changed, " "))
				}
			}
		}
	}
}

// Arguments of a line in another order, once more, or left out.
func TestLinesWithOtherFields(t *testing.T) {
	lines := allLines()
	for _, line := range someLines() {
		fields := strings.Split(line, " ")
		for i := range fields {
			checkLine(t, lines, strings.Join(slices.Delete(slices.Clone(fields), i, i+1), " "))
			for j := range fields {
				checkLine(t, lines, strings.Join(slices.Insert(slices.Clone(fields), i, fields[j]), " "))
				swapped := slices.Clone(fields)
				swapped[i], swapped[j] = swapped[j], swapped[i]
				checkLine(t, lines, strings.Join(swapped, " "))
			}
		}
		for _, other := range someLines() {
			checkLine(t, lines, line+" "+other)
			checkLine(t, lines, line+other)
			checkLine(t, lines, line+"\n"+other)
			word, _, _ := strings.Cut(other, " ")
			checkLine(t, lines, strings.Join(slices.Concat([]string{word}, fields[1:]), " "))
		}
	}
}

// Very long lines have no statement, whatever they begin or end with.
func TestLongLines(t *testing.T) {
	for _, line := range someLines() {
		for _, length := range []int{16, 100, 596, 597, 598, 599, 600, 601, 1000, maxInputLen, maxInputLen + 1, 100000} {
			for _, filler := range []string{" ", "0", "r", "\x00", "\n", "\t", " r0", " 0"} {
				more := strings.Repeat(filler, length/len(filler))
				checkNoLine(t, line+more)
				checkNoLine(t, more+line)
				checkNoLine(t, strings.Replace(line, " ", " "+more+" ", 1)+more)
				checkNoLine(t, more)
			}
		}
	}
}

// checkSource checks the result of ParseProgram: a list and 0, or no list and a
// number.
func checkSource(t *testing.T, text string, want []impl.Stmt, number int) {
	t.Helper()
	if got, n := impl.ParseProgram(text); !slices.Equal(got, want) || n != number {
		t.Errorf("ParseProgram(%.200q), %d bytes: %+v, %d; want %+v, %d", text, len(text), got, n, want, number)
	}
}

// checkRound checks the text of a list of valid statements, and the list of
// that text, if the list is a program.
func checkRound(t *testing.T, list []impl.Stmt, program bool) {
	t.Helper()
	want, number := textOf(list), -1
	parsed := list
	if program {
		number = 0
	} else {
		parsed = nil
	}
	text, ok := impl.FormatProgram(list)
	if ok != program || program && text != want || !program && text != "" {
		t.Errorf("FormatProgram(%+v) = %q, %v; want %v", list, text, ok, program)
	}
	checkSource(t, want, parsed, number)
	checkSource(t, strings.TrimSuffix(want, "\n"), parsed, number)
}

func TestFormatProgram(t *testing.T) {
	list := []impl.Stmt{
		{Op: impl.OpInput}, {Op: impl.OpInput, Dst: 1, A: 1}, {Op: impl.OpLoop, N: 2}, {Op: impl.OpAdd, A: 0, B: 1},
		{Op: impl.OpLoop, N: 8}, {Op: impl.OpMux, Dst: 1, A: 2, B: 3, C: 4}, {Op: impl.OpEnd}, {Op: impl.OpEnd}, {Op: impl.OpOut},
	}
	want := "input r0 p0 0\ninput r1 p1 0\nloop 2\nadd r0 r0 r1\nloop 8\nmux r1 r2 r3 r4\nend\nend\nout r0\n"
	if text, ok := impl.FormatProgram(list); text != want || !ok {
		t.Errorf("FormatProgram = %q, %v; want %q", text, ok, want)
	}
	checkSource(t, want, list, 0)
	checkSource(t, strings.TrimSuffix(want, "\n"), list, 0)
}

func TestEmptyProgramAsText(t *testing.T) {
	for _, list := range [][]impl.Stmt{nil, {}} {
		if text, ok := impl.FormatProgram(list); text != "" || !ok {
			t.Errorf("FormatProgram of no statements = %q, %v", text, ok)
		}
	}
	for lines := range 100 {
		checkSource(t, strings.Repeat("\n", lines), nil, 0)
	}
}

func TestProgramsAsText(t *testing.T) {
	for _, text := range []string{
		"x", "c0xo", "()", "(x)", "[x)", "x(x)x", "()()", "(())", "((()))", "(x(x(x)x)x)", "((()()()))", "((()))((()))", "01(x)o", "[(m))", "[[[c)))",
		"01234", strings.Repeat("()", 20), strings.Repeat("((()))", 6) + "(())",
	} {
		checkRound(t, programOf(text), true)
	}
	for _, text := range []string{
		"(", ")", ")(", "x)", "(x", "(()", "())", "()(", "(((", ")))", "(((())))", "x((((x))))x", "x(x", ")x(", "((x)", "(x))", "[[[[c))))",
		strings.Repeat("x", maxStmts+1), strings.Repeat("()", 20) + "x",
	} {
		checkRound(t, programOf(text), false)
	}
}

// All lists of loops, ends and other statements up to a length.
func TestAllShortProgramsAsText(t *testing.T) {
	for length := range 9 {
		for number := range power(3, length) {
			text := []byte{}
			for _, digit := range digitsOf(3, length, number) {
				text = append(text, "()x"[digit])
			}
			depth := nestingOf(string(text))
			checkRound(t, programOf(string(text)), depth >= 0 && depth <= maxDepth)
		}
	}
}

// All valid statements are in some program, in nested loops of all counts.
func TestProgramsOfAllStatementsAsText(t *testing.T) {
	others := slices.DeleteFunc(allStatements(), func(s impl.Stmt) bool { return s.Op == impl.OpLoop || s.Op == impl.OpEnd })
	end := impl.Stmt{Op: impl.OpEnd}
	round := 0
	for part := range slices.Chunk(others, maxStmts-2*maxDepth) {
		for depth := range maxDepth + 1 {
			list := part
			for range depth {
				loop := impl.Stmt{Op: impl.OpLoop, N: 1 + round%maxLoop}
				list = slices.Concat([]impl.Stmt{loop}, list, []impl.Stmt{end})
				round++
			}
			checkRound(t, list, true)
		}
	}
}

func TestProgramLengthsAsText(t *testing.T) {
	for length := range 2*maxStmts + 3 {
		for _, letter := range "xcom0" {
			checkRound(t, programOf(strings.Repeat(string(letter), length)), length <= maxStmts)
		}
		if length >= 2 {
			checkRound(t, programOf("["+strings.Repeat("m", length-2)+")"), length <= maxStmts)
		}
	}
	for _, length := range []int{256, 257, 296, 1000} {
		checkRound(t, programOf(strings.Repeat("o", length)), false)
	}
}

// A list with an invalid statement at any position has no text.
func TestNoTextOfOtherLists(t *testing.T) {
	for _, bad := range []impl.Stmt{
		{}, {Op: -1}, {Op: impl.OpEnd + 1}, {Op: math.MinInt64}, {Op: impl.OpConst, N: 16}, {Op: impl.OpInput, A: maxParties}, {Op: impl.OpAdd, C: 1},
		{Op: impl.OpMux, C: maxRegs}, {Op: impl.OpOut, A: -1}, {Op: impl.OpOut, Dst: 1}, {Op: impl.OpLoop}, {Op: impl.OpEnd, N: 1},
	} {
		for _, letters := range []string{"x", "o(x)m", "0((1)2)3", strings.Repeat("c", maxStmts)} {
			for position := range len(letters) {
				list := programOf(letters)
				list[position] = bad
				if text, ok := impl.FormatProgram(list); text != "" || ok {
					t.Errorf("FormatProgram of %q with %+v at %d = %q, %v", letters, bad, position, text, ok)
				}
			}
		}
	}
}

// Empty lines at any place, once or more often, change nothing, with and
// without a newline at the end.
func TestEmptyLines(t *testing.T) {
	for _, letters := range []string{"x", "()", "0(1)o", "c[(m)x)o", strings.Repeat("o", maxStmts), strings.Repeat("[)", maxStmts/2)} {
		list := programOf(letters)
		for place := range len(list) + 1 {
			for empty := range 5 {
				lines := slices.Concat(linesOf(list[:place]), make([]string, empty), linesOf(list[place:]))
				text := strings.Join(lines, "\n")
				checkSource(t, text, list, 0)
				checkSource(t, text+"\n", list, 0)
				checkSource(t, "\n"+text, list, 0)
				checkSource(t, "\n\n"+text+"\n\n\n", list, 0)
				checkSource(t, strings.ReplaceAll(text, "\n", "\n\n"), list, 0)
			}
		}
	}
}

// A wrong line at each position, with empty lines before and behind it: its
// number counts all lines before it.
func TestWrongLineAtEachPosition(t *testing.T) {
	for _, letters := range []string{"", "x", "()", "0(1)o", "c[(m)x)o"} {
		lines := linesOf(programOf(letters))
		for position := range len(lines) + 1 {
			for empty := range 4 {
				for _, wrong := range wrongLines {
					text := strings.Join(slices.Concat(make([]string, empty), lines[:position], []string{wrong}, lines[position:]), "\n")
					checkSource(t, text, nil, empty+position+1)
					checkSource(t, text+"\n", nil, empty+position+1)
					text = strings.Join(slices.Concat(lines[:position], make([]string, empty), []string{wrong, ""}, lines[position:]), "\n")
					checkSource(t, text, nil, empty+position+1)
					checkSource(t, strings.ReplaceAll(text, "\n", "\n\n"), nil, 2*(empty+position)+1)
				}
			}
		}
	}
}

// Of two wrong lines, the first one counts.
func TestTwoWrongLines(t *testing.T) {
	for _, letters := range []string{"", "x", "0(1)o", "[(m)x)o"} {
		lines := linesOf(programOf(letters))
		for second := range len(lines) + 1 {
			for first := range second + 1 {
				for _, wrong := range wrongLines {
					for _, other := range []string{" ", "end ", "loop 9", "out r8", wrong} {
						text := strings.Join(slices.Concat(lines[:first], []string{wrong}, lines[first:second], []string{other}, lines[second:]), "\n")
						checkSource(t, text, nil, first+1)
						checkSource(t, "\n"+text+"\n", nil, first+2)
						checkSource(t, other+"\n"+text, nil, 1)
					}
				}
			}
		}
	}
}

// A wrong line counts before that the statements are no program, whichever of
// them is first.
func TestWrongLineOfNoProgram(t *testing.T) {
	for _, letters := range []string{"(", ")", ")(", "(()", "())", "(((())))", "x(x", strings.Repeat("x", maxStmts+1), strings.Repeat("()", maxStmts), strings.Repeat("(", maxStmts+9)} {
		lines := linesOf(programOf(letters))
		checkSource(t, strings.Join(lines, "\n"), nil, -1)
		checkSource(t, "\n"+strings.Join(lines, "\n\n")+"\n", nil, -1)
		for position := range len(lines) + 1 {
			for _, wrong := range []string{" ", "end ", "loop 0", "x", "out r0  "} {
				text := strings.Join(slices.Concat(lines[:position], []string{wrong}, lines[position:]), "\n")
				checkSource(t, text, nil, position+1)
				checkSource(t, "\n\n\n"+text+"\n", nil, position+4)
			}
		}
	}
}

func TestTextsOfMaxInputLen(t *testing.T) {
	list := programOf("0(1m)[[x))o")
	text := textOf(list)
	half := strings.Index(text, "loop 8")
	for _, length := range []int{maxInputLen - 1, maxInputLen, maxInputLen + 1, maxInputLen + 2, 2 * maxInputLen, 65536 + len(text)} {
		empty := strings.Repeat("\n", length-len(text))
		fits, number := list, 0
		if length > maxInputLen {
			fits, number = nil, -1
		}
		checkSource(t, empty+text, fits, number)
		checkSource(t, text+empty, fits, number)
		checkSource(t, text[:half]+empty+text[half:], fits, number)
		checkSource(t, empty+"\n"+text[:len(text)-1], fits, number)
		checkSource(t, strings.Repeat("\n", length), nil, number)
	}
	if impl.MaxInputLen != maxInputLen {
		t.Error("the limit differs from the document", impl.MaxInputLen)
	}
}

// In a text that is too long, no line is wrong; in one of the greatest length,
// every line counts.
func TestWrongLinesOfLongTexts(t *testing.T) {
	for _, length := range []int{maxInputLen - 1, maxInputLen, maxInputLen + 1, maxInputLen + 2, 3 * maxInputLen} {
		check := func(text string, number int) {
			if length > maxInputLen {
				number = -1
			}
			checkSource(t, text, nil, number)
		}
		for _, wrong := range []string{"x", " ", "out r8", "end\r"} {
			empty := strings.Repeat("\n", length-len(wrong))
			check(wrong+empty, 1)
			check(empty+wrong, len(empty)+1)
			check(empty[:5000]+wrong+empty[5000:], 5001)
		}
		for _, filler := range []string{" ", "x", "0", "\x00", "\r", "\xff"} {
			check(strings.Repeat(filler, length), 1)
			check("\n"+strings.Repeat(filler, length-1), 2)
			check("end\n"+strings.Repeat(filler, length-4), 2)
			check(strings.Repeat(filler+"\n", length)[:length], 1)
		}
		check(strings.Repeat("\n", length%4)+strings.Repeat("end\n", length/4), -1)
		check(strings.Repeat("\n", length%4)+strings.Repeat("end\n", length/4-1)+"enD\n", length%4+length/4)
	}
}

// Only byte 10 ends a line.
func TestOtherLineEnds(t *testing.T) {
	for _, end := range []string{"\r", "\r\n", "\v", "\f", "\x00", "\x1e", "\u0085", "\u2028", "\u2029", ";", "\\n", " ", "\t", " \n", "\t\n"} {
		checkSource(t, "out r0"+end+"out r1\n", nil, 1)
		checkSource(t, "out r0\nout r1"+end, nil, 2)
		checkSource(t, "\nout r0\n\nout r1"+end+"out r2", nil, 4)
		checkSource(t, "\n"+end, nil, 2)
	}
	list := programOf("oo")
	for _, text := range []string{"out r7\nout r7", "\x0aout r7\x0a\x0aout r7\x0a"} {
		checkSource(t, text, list, 0)
	}
}

// The statements are new memory: what the caller writes into them, or behind
// them, is not seen by another call.
func TestParsedProgramIsNew(t *testing.T) {
	for _, letters := range []string{"", "x", "0(1)o", strings.Repeat("m", maxStmts)} {
		list := programOf(letters)
		text := textOf(list)
		first, _ := impl.ParseProgram(text)
		second, _ := impl.ParseProgram(text)
		first = first[:cap(first)]
		for i := range first {
			first[i] = impl.Stmt{Op: -9, N: -9}
		}
		if !slices.Equal(second, list) {
			t.Errorf("the statements of %q share memory with others", letters)
		}
		checkSource(t, text, list, 0)
	}
}

// FormatProgram does not write into its list, or behind it, and what is behind
// it does not count.
func TestFormatProgramLeavesTheList(t *testing.T) {
	for _, letters := range []string{"", "x", "0(1)o", "((()))", "(((())))", "(", ")", "x!m", strings.Repeat("x", maxStmts), strings.Repeat("x", maxStmts+1)} {
		guarded := programOf("!" + letters + "o)(!")
		before := slices.Clone(guarded)
		given := guarded[1 : 1+len(letters)]
		for range 3 {
			text, ok := impl.FormatProgram(given)
			if want := impl.ProgramOk(given); ok != want || want && text != textOf(given) || !want && text != "" {
				t.Errorf("FormatProgram of %q = %q, %v", letters, text, ok)
			}
		}
		if !slices.Equal(guarded, before) {
			t.Errorf("the list of %q was changed to %+v", letters, guarded)
		}
	}
}

// The text does not change with the list that it was made of.
func TestFormattedTextIsNew(t *testing.T) {
	list := programOf("0(1m)o")
	want := textOf(list)
	text, _ := impl.FormatProgram(list)
	for i := range list {
		list[i] = impl.Stmt{Op: impl.OpEnd}
	}
	if other, ok := impl.FormatProgram(programOf("xxxxxx")); text != want || other == want || !ok {
		t.Errorf("the text changed to %q", text)
	}
}

// The same arguments have the same results again, whatever was called between.
func TestSourceAgain(t *testing.T) {
	lines := allLines()
	for range 50 {
		for _, line := range someLines() {
			checkLine(t, lines, line)
			checkNoLine(t, line+" ")
			if text, ok := impl.FormatStmt(lines[line]); text != line || !ok {
				t.Errorf("FormatStmt(%+v) = %q, %v", lines[line], text, ok)
			}
		}
		for _, letters := range []string{"(", "((((", "x)", strings.Repeat("x", maxStmts+1)} {
			checkRound(t, programOf(letters), false)
			checkNoText(t, stmtOf('!'))
			checkSource(t, "out r0\nout r8", nil, 2)
			checkRound(t, programOf("2((x))o"), true)
		}
	}
}
