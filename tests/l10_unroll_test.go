package tests

import (
	"fmt"
	"math"
	"slices"
	"strconv"
	"strings"
	"testing"

	"loop.example/g00979/impl"
)

const maxUnrolled = 120

// largestSize is that of a program whose loops leave the most statements: all
// of them are in three loops.
const largestSize = (maxStmts - 2*maxDepth) * maxLoop * maxLoop * maxLoop

// placedStmt returns the statement for a letter at a place: a digit is a loop of
// so many times, ) is its end, o an output and x another statement. Those with
// the letter x differ at all places, and those with the letter o at neighbouring
// ones, so that their order shows.
func placedStmt(letter byte, place int) impl.Stmt {
	switch letter {
	case ')':
		return impl.Stmt{Op: impl.OpEnd}
	case 'o':
		return impl.Stmt{Op: impl.OpOut, A: place % maxRegs}
	case 'x':
		return impl.Stmt{Op: impl.OpConst, Dst: place % maxRegs, N: place / maxRegs % 16}
	}
	return impl.Stmt{Op: impl.OpLoop, N: int(letter - '0')}
}

// placedFrom returns the list of the statements for the letters of a text, whose
// first one is at a place.
func placedFrom(first int, text string) []impl.Stmt {
	list := []impl.Stmt{}
	for i := range len(text) {
		list = append(list, placedStmt(text[i], first+i))
	}
	return list
}

func placed(text string) []impl.Stmt { return placedFrom(0, text) }

// placedNumbers returns the statements of a text at the given places.
func placedNumbers(text string, places []int) []impl.Stmt {
	list := []impl.Stmt{}
	for _, place := range places {
		list = append(list, placedStmt(text[place], place))
	}
	return list
}

func isEnd(s impl.Stmt) bool { return s.Op == impl.OpEnd }

func isLoop(s impl.Stmt) bool { return s.Op == impl.OpLoop }

func isOut(s impl.Stmt) bool { return s.Op == impl.OpOut }

// unrolledOf is the definition of the statements of a program without its
// loops: the loop of the first end has none inside, and it is replaced by its
// statements repeated, until no end is left.
func unrolledOf(list []impl.Stmt) []impl.Stmt {
	rest := slices.Clone(list)
	for slices.ContainsFunc(rest, isEnd) {
		end := slices.IndexFunc(rest, isEnd)
		loop := end - 1
		for !isLoop(rest[loop]) {
			loop--
		}
		rest = slices.Concat(rest[:loop], slices.Repeat(rest[loop+1:end], rest[loop].N), rest[end+1:])
	}
	return rest
}

// bracketsOf returns the loops and ends of a list as a text.
func bracketsOf(list []impl.Stmt) string {
	text := ""
	for _, s := range list {
		if isLoop(s) {
			text += "("
		} else if isEnd(s) {
			text += ")"
		}
	}
	return text
}

// looped returns the statements of the lists in a loop of so many times.
func looped(times int, lists ...[]impl.Stmt) []impl.Stmt {
	return slices.Concat([]impl.Stmt{{Op: impl.OpLoop, N: times}}, slices.Concat(lists...), []impl.Stmt{{Op: impl.OpEnd}})
}

// countOf returns the number of statements with a property.
func countOf(list []impl.Stmt, has func(impl.Stmt) bool) int {
	count := 0
	for _, s := range list {
		if has(s) {
			count++
		}
	}
	return count
}

// brief returns the beginning of a list as a text, valid statements or not.
func brief(list []impl.Stmt) string {
	return fmt.Sprintf("%d statements %.300s", len(list), fmt.Sprint(list))
}

// checkUnrolledTo checks what the functions say of a program that has these
// statements without its loops.
func checkUnrolledTo(t *testing.T, list []impl.Stmt, want []impl.Stmt) {
	t.Helper()
	size, outputs := len(want), countOf(want, isOut)
	fits := size <= maxUnrolled
	if !fits {
		want, outputs = nil, -1
	}
	got, ok := impl.Unroll(list)
	if !slices.Equal(got, want) || ok != fits {
		t.Errorf("Unroll of %.300q = %s, %v; want %s", textOf(list), brief(got), ok, brief(want))
	}
	if slices.ContainsFunc(got, isLoop) || slices.ContainsFunc(got, isEnd) {
		t.Errorf("Unroll of %.300q left a loop or an end: %s", textOf(list), brief(got))
	}
	if n := impl.UnrolledSize(list); n != size {
		t.Errorf("UnrolledSize of %.300q = %d; want %d", textOf(list), n, size)
	}
	if n := impl.OutputCount(list); n != outputs {
		t.Errorf("OutputCount of %.300q = %d; want %d", textOf(list), n, outputs)
	}
	if n, depth := impl.LoopDepth(list), nestingOf(bracketsOf(list)); n != depth {
		t.Errorf("LoopDepth of %.300q = %d; want %d", textOf(list), n, depth)
	}
}

// checkUnrolled checks a program by the definition.
func checkUnrolled(t *testing.T, list []impl.Stmt) {
	t.Helper()
	checkUnrolledTo(t, list, unrolledOf(list))
}

// checkNotUnrolled checks that a list is no program.
func checkNotUnrolled(t *testing.T, list []impl.Stmt) {
	t.Helper()
	got, ok := impl.Unroll(list)
	size, depth, outputs := impl.UnrolledSize(list), impl.LoopDepth(list), impl.OutputCount(list)
	if len(got) != 0 || ok || size != -1 || depth != -1 || outputs != -1 {
		t.Errorf("of %s: Unroll %s, %v; UnrolledSize %d; LoopDepth %d; OutputCount %d", brief(list), brief(got), ok, size, depth, outputs)
	}
}

func TestUnroll(t *testing.T) {
	if impl.MaxUnrolled != maxUnrolled {
		t.Error("the limit differs from the document", impl.MaxUnrolled)
	}
	cases := []struct {
		text    string
		places  []int
		depth   int
		outputs int
	}{
		{"", nil, 0, 0},
		{"x", []int{0}, 0, 0},
		{"oxo", []int{0, 1, 2}, 0, 2},
		{"1)", nil, 1, 0},
		{"8)", nil, 1, 0},
		{"8)8)", nil, 1, 0},
		{"888)))", nil, 3, 0},
		{"1x)", []int{1}, 1, 0},
		{"2x)", []int{1, 1}, 1, 0},
		{"xx2ox)o", []int{0, 1, 3, 4, 3, 4, 6}, 1, 3},
		{"3o)", []int{1, 1, 1}, 1, 3},
		{"2x)3o)", []int{1, 1, 4, 4, 4}, 1, 3},
		{"2x3o)x)o", []int{1, 3, 3, 3, 5, 1, 3, 3, 3, 5, 7}, 2, 7},
		{"2x)x2o)", []int{1, 1, 3, 5, 5}, 1, 2},
		{"22x)2o))", []int{2, 2, 5, 5, 2, 2, 5, 5}, 2, 4},
		{"2x2x2x)x)x)", []int{1, 3, 5, 5, 7, 3, 5, 5, 7, 9, 1, 3, 5, 5, 7, 3, 5, 5, 7, 9}, 3, 0},
		{"213o)x))", []int{3, 3, 3, 5, 3, 3, 3, 5}, 3, 6},
		{"3x8)x)", []int{1, 4, 1, 4, 1, 4}, 2, 0},
	}
	for _, c := range cases {
		checkUnrolledTo(t, placed(c.text), placedNumbers(c.text, c.places))
		if depth, outputs := impl.LoopDepth(placed(c.text)), impl.OutputCount(placed(c.text)); depth != c.depth || outputs != c.outputs {
			t.Errorf("%q: LoopDepth %d, OutputCount %d; want %d, %d", c.text, depth, outputs, c.depth, c.outputs)
		}
	}
}

func TestUnrollEmptyList(t *testing.T) {
	for _, list := range [][]impl.Stmt{nil, {}, make([]impl.Stmt, 0, 9)} {
		checkUnrolledTo(t, list, nil)
	}
}

// A program without loops stays as it is, with all statements, in their order
// and as often as they are there.
func TestUnrollWithoutLoops(t *testing.T) {
	others := slices.DeleteFunc(allStatements(), func(s impl.Stmt) bool { return isLoop(s) || isEnd(s) })
	for _, s := range others {
		checkUnrolledTo(t, []impl.Stmt{s}, []impl.Stmt{s})
		checkUnrolledTo(t, []impl.Stmt{s, s}, []impl.Stmt{s, s})
	}
	for part := range slices.Chunk(others, maxStmts) {
		checkUnrolledTo(t, part, part)
	}
	for length := range maxStmts + 1 {
		for _, letters := range []string{"x", "o", "xo", "xxo", "oox"} {
			list := placed(strings.Repeat(letters, maxStmts)[:length])
			checkUnrolledTo(t, list, list)
		}
	}
}

// Every statement, with all its fields, is repeated by a loop of every N, also
// behind another one.
func TestUnrollAllStatementsInLoops(t *testing.T) {
	before, after := placed("xo"), placedFrom(2, "xxo")
	for _, s := range allStatements() {
		if isLoop(s) || isEnd(s) {
			continue
		}
		for times := 1; times <= maxLoop; times++ {
			checkUnrolledTo(t, looped(times, []impl.Stmt{s}), slices.Repeat([]impl.Stmt{s}, times))
		}
		body := slices.Concat(before, []impl.Stmt{s}, after)
		checkUnrolledTo(t, looped(3, body), slices.Concat(body, body, body))
	}
}

// One loop of every N, with every number of statements before it, in it and
// behind it that a program can have, none included.
func TestUnrollOneLoop(t *testing.T) {
	for times := 1; times <= maxLoop; times++ {
		for length := range maxStmts - 1 {
			list := placed(strings.Repeat("xox", maxStmts)[:length])
			for start := range length + 1 {
				for end := start; end <= length; end++ {
					before, body, after := list[:start], list[start:end], list[end:]
					program := slices.Concat(before, looped(times, body), after)
					checkUnrolledTo(t, program, slices.Concat(before, slices.Repeat(body, times), after))
				}
			}
		}
	}
}

// Two and three loops one behind the other, with every N, with and without
// statements between them.
func TestUnrollLoopsBehindEachOther(t *testing.T) {
	a, b, c := placed("xo"), placedFrom(2, "xo"), placedFrom(4, "x")
	for first := 1; first <= maxLoop; first++ {
		for second := 1; second <= maxLoop; second++ {
			for third := 1; third <= maxLoop; third++ {
				for _, between := range [][]impl.Stmt{nil, placedFrom(6, "x"), placedFrom(9, "xo")} {
					program := slices.Concat(looped(first, a), between, looped(second, b), between, looped(third, c))
					want := slices.Concat(slices.Repeat(a, first), between, slices.Repeat(b, second), between, slices.Repeat(c, third))
					checkUnrolledTo(t, program, want)
					checkUnrolledTo(t, slices.Concat(looped(first), between, looped(second, b), looped(third)), slices.Concat(between, slices.Repeat(b, second)))
				}
			}
		}
	}
	for count := range maxStmts/2 + 1 {
		for times := 1; times <= maxLoop; times++ {
			checkUnrolledTo(t, slices.Repeat(looped(times), count), nil)
		}
	}
	for count := range maxStmts/3 + 1 {
		for times := 1; times <= maxLoop; times++ {
			checkUnrolledTo(t, slices.Repeat(looped(times, a[:1]), count), slices.Repeat(a[:1], times*count))
		}
	}
}

// Three nested loops with all N: before, in, between and behind them are
// statements or none, in all combinations.
func TestUnrollNestedLoops(t *testing.T) {
	const places = 7
	for number := range power(maxLoop, maxDepth) {
		times := digitsOf(maxLoop, maxDepth, number)
		for filled := range 1 << places {
			// The combinations take turns, except for a few N that are tried with all.
			if filled%4 != number%4 && slices.Max(times) > 2 {
				continue
			}
			at := make([][]impl.Stmt, places)
			for place := range places {
				if filled>>place&1 == 1 {
					at[place] = placedFrom(2*place, "ox"[place%2:])
				}
			}
			inner := looped(times[2]+1, at[3])
			middle := looped(times[1]+1, at[2], inner, at[4])
			program := slices.Concat(at[0], looped(times[0]+1, at[1], middle, at[5]), at[6])
			want := slices.Repeat(at[3], times[2]+1)
			want = slices.Repeat(slices.Concat(at[2], want, at[4]), times[1]+1)
			want = slices.Concat(at[0], slices.Repeat(slices.Concat(at[1], want, at[5]), times[0]+1), at[6])
			checkUnrolledTo(t, program, want)
		}
	}
}

// Several loops in one loop, and loops of different depths one behind the other.
func TestUnrollLoopsInLoops(t *testing.T) {
	for _, pattern := range []string{
		"ax)bx)", "abx))", "axbx)x)", "abcx)))", "abx)cx))", "axbx)xcx)xo)", "abcx)x)bo))", "abx)x)cx)", "ax)bcx))", "abcx)cx)cx)))", "abcx))bcx)))",
		"abcx)))abcx)))", "a)b)c)", "abc)))x", "xabc)))", "ab)cx))", "abx)c))", "abco)x)bcx)o))x", "xaxbxcx)x)x)xaxbxcx)x)x)x", "oao)obo)oco)o",
		"abcx)x)x)", "axbxcx)))", "abcx)cx))x)", "abcx)))x", "xabcx)))", "abcx)))b)", "b)abcx)))", "aabx)x))", "axbocx))cx)ox)c)",
	} {
		for a := 1; a <= maxLoop; a++ {
			for b := 1; b <= maxLoop; b++ {
				for c := 1; c <= maxLoop; c++ {
					times := strings.NewReplacer("a", strconv.Itoa(a), "b", strconv.Itoa(b), "c", strconv.Itoa(c))
					checkUnrolled(t, placed(times.Replace(pattern)))
				}
			}
		}
	}
}

// All lists of loops, ends, outputs and other statements up to a length, with
// two numbers of times.
func TestUnrollAllShortLists(t *testing.T) {
	for length := range 8 {
		for number := range power(5, length) {
			text := []byte{}
			for _, digit := range digitsOf(5, length, number) {
				text = append(text, "13)xo"[digit])
			}
			list := placed(string(text))
			if depth := nestingOf(bracketsOf(list)); depth < 0 || depth > maxDepth {
				checkNotUnrolled(t, list)
			} else {
				checkUnrolled(t, list)
			}
		}
	}
}

// All lists of loops, ends and one other statement up to a greater length, with
// a number of times that depends on the place.
func TestUnrollAllListsOfThree(t *testing.T) {
	for length := range 11 {
		for number := range power(3, length) {
			text := []byte{}
			for place, digit := range digitsOf(3, length, number) {
				text = append(text, []byte{'1' + byte((3*place+1)%maxLoop), ')', 'x'}[digit])
			}
			list := placed(string(text))
			if depth := nestingOf(bracketsOf(list)); depth < 0 || depth > maxDepth {
				checkNotUnrolled(t, list)
			} else {
				checkUnrolled(t, list)
			}
		}
	}
}

// A loop is the same as its statements repeated: where the repeated statements
// are a program too, both have the same result.
func TestLoopIsItsStatementsRepeated(t *testing.T) {
	bodies := []string{"", "x", "o", "xo", "oxx", "2x)", "x3o)", "2o)x", "2x3o)x)", "1)", "22)x)", "x2)2o)", "2xo)2x)"}
	around := []string{"", "x", "o", "xo", "2x)", "2x2o))o", "3o)xx"}
	for times := 1; times <= maxLoop; times++ {
		for _, inside := range bodies {
			for _, before := range around {
				for _, after := range around {
					body := placedFrom(6, inside)
					program := slices.Concat(placed(before), looped(times, body), placed(after))
					repeated := slices.Concat(placed(before), slices.Repeat(body, times), placed(after))
					if !impl.ProgramOk(repeated) {
						continue
					}
					checkSameUnrolled(t, program, repeated)
					checkUnrolled(t, program)
				}
			}
		}
	}
}

// checkSameUnrolled checks that two programs are the same without their loops.
func checkSameUnrolled(t *testing.T, program []impl.Stmt, other []impl.Stmt) {
	t.Helper()
	first, ok := impl.Unroll(program)
	second, otherOk := impl.Unroll(other)
	if !slices.Equal(first, second) || ok != otherOk {
		t.Errorf("Unroll of %.300q = %s, %v; of %.300q = %s, %v", textOf(program), brief(first), ok, textOf(other), brief(second), otherOk)
	}
	if impl.UnrolledSize(program) != impl.UnrolledSize(other) || impl.OutputCount(program) != impl.OutputCount(other) {
		t.Errorf("%.300q: size %d, outputs %d; %.300q: size %d, outputs %d", textOf(program), impl.UnrolledSize(program), impl.OutputCount(program),
			textOf(other), impl.UnrolledSize(other), impl.OutputCount(other))
	}
}

// What was unrolled stays the same if it is unrolled again, as far as it is a
// program: one that has more than MaxStmts statements is none.
func TestUnrollAgainWhatWasUnrolled(t *testing.T) {
	for times := 1; times <= maxLoop; times++ {
		for length := range maxStmts - 1 {
			list := placed(strings.Repeat("xxo", maxStmts)[:length])
			for body := range length + 1 {
				unrolled, ok := impl.Unroll(slices.Concat(looped(times, list[:body]), list[body:]))
				if len(unrolled) > maxStmts {
					checkNotUnrolled(t, unrolled)
				} else if ok {
					checkUnrolledTo(t, unrolled, unrolled)
				}
			}
		}
	}
	nested, _ := impl.Unroll(placed("o2x3o1x)x)2o))x"))
	again, ok := impl.Unroll(nested)
	if !slices.Equal(nested, again) || !ok || len(nested) != 26 {
		t.Errorf("%s was unrolled to %s, %v", brief(nested), brief(again), ok)
	}
}

// A loop that gives MaxUnrolled statements, or nearly so, with the other
// statements before it and behind it, also in a loop of its own.
func TestUnrollAroundTheLimit(t *testing.T) {
	found := map[int]bool{}
	for times := 1; times <= maxLoop; times++ {
		for body := range maxStmts - 1 {
			for rest := range maxStmts - 1 - body {
				size := times*body + rest
				if size < maxUnrolled-3 || size > maxUnrolled+3 {
					continue
				}
				found[size] = true
				list := placed(strings.Repeat("oxx", maxStmts)[:body+rest])
				loop, others := looped(times, list[:body]), list[body:]
				for before := range rest + 1 {
					checkUnrolled(t, slices.Concat(others[:before], loop, others[before:]))
				}
				if 4+body+rest <= maxStmts {
					checkUnrolled(t, slices.Concat(loop, looped(1, others)))
					checkUnrolled(t, slices.Concat(looped(1, others), loop))
					checkUnrolled(t, looped(1, others, loop))
					checkUnrolled(t, looped(1, loop, others))
				}
			}
		}
	}
	for size := maxUnrolled - 3; size <= maxUnrolled+3; size++ {
		if !found[size] {
			t.Errorf("no program of %d unrolled statements was tried", size)
		}
	}
}

// Nested loops of all N around the limit: the statements are in the innermost
// loop, before it, behind it or outside of all loops.
func TestUnrollNestedLoopsAroundTheLimit(t *testing.T) {
	exact, larger := 0, 0
	for number := range power(maxLoop, maxDepth) {
		times := digitsOf(maxLoop, maxDepth, number)
		a, b, c := times[0]+1, times[1]+1, times[2]+1
		for counts := range power(4, 5) {
			n := digitsOf(4, 5, counts)
			size := a*(b*(c*n[0]+n[1])+n[2]) + n[3] + n[4]
			if size < maxUnrolled-1 || size > maxUnrolled+2 {
				continue
			}
			switch size {
			case maxUnrolled:
				exact++
			case maxUnrolled + 1:
				larger++
			}
			body := looped(c, placed("oxx"[:n[0]]))
			middle := placedFrom(3, "xox"[:n[1]])
			outer := placedFrom(6, "xxo"[:n[2]])
			before, after := placedFrom(9, "oxo"[:n[3]]), placedFrom(12, "xox"[:n[4]])
			checkUnrolled(t, slices.Concat(before, looped(a, outer, looped(b, middle, body)), after))
			checkUnrolled(t, slices.Concat(before, looped(a, looped(b, body, middle), outer), after))
		}
	}
	if exact == 0 || larger == 0 {
		t.Errorf("%d programs of the limit and %d of one more were tried", exact, larger)
	}
}

// The limit is exceeded by the last statement behind all loops, by the last
// repetition, far before the end, or not at all by loops without statements.
func TestUnrollWhereTheLimitIsExceeded(t *testing.T) {
	x := func(count int) string { return strings.Repeat("x", count) }
	cases := []struct {
		text string
		size int
	}{
		{"8" + x(15) + ")", 120},
		{"8" + x(15) + ")x", 121},
		{"8" + x(15) + ")o", 121},
		{"x8" + x(15) + ")", 121},
		{"8" + x(15) + ")8)", 120},
		{"888)))8" + x(15) + ")888)))", 120},
		{"8" + x(15) + ")1x)", 121},
		{"8" + x(15) + "8))", 120},
		{"8" + x(15) + "1x))", 128},
		{"8" + x(14) + ")xxxxxxxx", 120},
		{"8" + x(14) + ")xxxxxxxxx", 121},
		{"8" + x(14) + ")8x)", 120},
		{"8" + x(14) + ")8x)x", 121},
		{"8" + x(15) + ")" + x(23), 143},
		{"6" + x(20) + ")", 120},
		{"5" + x(24) + ")", 120},
		{"4" + x(30) + ")", 120},
		{"4" + x(30) + ")o", 121},
		{"11" + x(1) + ")8" + x(14) + "))7x)", 120},
		{"11" + x(1) + ")8" + x(14) + "))8x)", 121},
		{"456x)))", 120},
		{"456x)))x", 121},
		{"456x))x)", 124},
		{"x456x)))", 121},
		{"8" + x(16) + ")", 128},
		{"888x)))", 512},
		{"8x8x8x)))", 8 + 64 + 512},
		{"888x)))888x)))888x)))888x)))888x)))", 5 * 512},
		{"888x)x)x)", 512 + 64 + 8},
		{"1" + x(38) + ")", 38},
		{"3" + x(38) + ")", 114},
		{"4" + x(38) + ")", 152},
		{"8" + x(38) + ")", 304},
		{"88" + x(36) + "))", 2304},
		{"888" + x(34) + ")))", largestSize},
		{"888" + strings.Repeat("o", 34) + ")))", largestSize},
		{"x888" + x(33) + ")))", largestSize - 511},
		{"888" + x(33) + ")))x", largestSize - 511},
		{"888" + x(33) + ")x))", largestSize - 512 + 64},
		{"888" + x(33) + "))x)", largestSize - 512 + 8},
		{"888" + x(31) + "))8x))", largestSize - 3*512 + 64},
	}
	for _, c := range cases {
		list := placed(c.text)
		if size := impl.UnrolledSize(list); size != c.size {
			t.Errorf("UnrolledSize of %q = %d; want %d", c.text, size, c.size)
		}
		if got, ok := impl.Unroll(list); ok != (c.size <= maxUnrolled) || ok && len(got) != c.size {
			t.Errorf("Unroll of %q = %d statements, %v; want %d", c.text, len(got), ok, c.size)
		}
		checkUnrolled(t, list)
	}
}

// LoopDepth is that of the loops, also of those without statements, and also of
// programs that are too large to be unrolled.
func TestLoopDepth(t *testing.T) {
	for _, c := range []struct {
		text string
		want int
	}{
		{"", 0}, {"x", 0}, {"xoxo", 0}, {strings.Repeat("x", maxStmts), 0},
		{"1)", 1}, {"8)", 1}, {"1x)", 1}, {"1)1)", 1}, {"x1)x1o)x", 1}, {strings.Repeat("8)", maxStmts/2), 1}, {"8" + strings.Repeat("x", 38) + ")", 1},
		{"11))", 2}, {"1x1x)x)", 2}, {"1)22))1)", 2}, {"22))1)", 2}, {"1)22))", 2}, {"21)1))", 2}, {"88" + strings.Repeat("x", 36) + "))", 2},
		{"111)))", 3}, {"888)))", 3}, {"888x)))", 3}, {"1)11))111)))", 3}, {"111)))11))1)", 3}, {"x1x1x1x)x)x)x", 3}, {"11)1)11)))", 3}, {"111)1)1))1)1)1))", 3},
		{strings.Repeat("111)))", 6) + "11))", 3}, {"888" + strings.Repeat("o", 34) + ")))", 3},
		{"1", -1}, {")", -1}, {")1", -1}, {"11)", -1}, {"1))", -1}, {"1111))))", -1}, {"8888))))", -1}, {"x1x1x1x1x)x)x)x)x", -1}, {"111)))1111))))", -1},
		{"0)", -1}, {"9)", -1}, {"1)0)", -1}, {strings.Repeat("x", maxStmts+1), -1}, {strings.Repeat("1)", maxStmts/2) + "x", -1},
	} {
		list := placed(c.text)
		if got := impl.LoopDepth(list); got != c.want {
			t.Errorf("LoopDepth of %q = %d; want %d", c.text, got, c.want)
		}
		if c.want < 0 {
			checkNotUnrolled(t, list)
		} else {
			checkUnrolled(t, list)
		}
	}
}

// An OpOut in loops counts once for each time it is repeated; a program that is
// too large to be unrolled has no number of outputs, even without any.
func TestOutputCount(t *testing.T) {
	for a := 1; a <= maxLoop; a++ {
		for b := 1; b <= maxLoop; b++ {
			for c := 1; c <= maxLoop; c++ {
				times := strings.NewReplacer("a", strconv.Itoa(a), "b", strconv.Itoa(b), "c", strconv.Itoa(c))
				checkOutputs(t, times.Replace("abco)))"), a*b*c, a*b*c)
				checkOutputs(t, times.Replace("abcx)))"), 0, a*b*c)
				checkOutputs(t, times.Replace("aobco))x)o"), a+a*b*c+1, a+a*b*c+a+1)
				checkOutputs(t, times.Replace("oao)bo)co)"), 1+a+b+c, 1+a+b+c)
				checkOutputs(t, times.Replace("ax)bo)cx)"), b, a+b+c)
				checkOutputs(t, times.Replace("ab)oco))"), a+a*c, a+a*c)
			}
		}
	}
	for length := range maxStmts + 1 {
		checkOutputs(t, strings.Repeat("o", length), length, length)
		checkOutputs(t, strings.Repeat("x", length), 0, length)
	}
	checkOutputs(t, "8"+strings.Repeat("o", 15)+")", 120, 120)
	checkOutputs(t, "8"+strings.Repeat("o", 15)+")x", 120, 121)
	checkOutputs(t, "o8"+strings.Repeat("x", 15)+")", 1, 121)
}

// checkOutputs checks the number of outputs of a program of a size.
func checkOutputs(t *testing.T, text string, want int, size int) {
	t.Helper()
	if size > maxUnrolled {
		want = -1
	}
	if got := impl.OutputCount(placed(text)); got != want {
		t.Errorf("OutputCount of %q = %d; want %d", text, got, want)
	}
}

// Only the Op says that a statement is an output.
func TestOutputsAreThoseOfOut(t *testing.T) {
	for _, s := range allStatements() {
		list, want := []impl.Stmt{s}, 0
		switch s.Op {
		case impl.OpLoop:
			list = append(list, placed("ox)")...)
			want = s.N
		case impl.OpEnd:
			list = append(placed("6o"), s)
			want = 6
		case impl.OpOut:
			want = 1
		}
		if got := impl.OutputCount(list); got != want {
			t.Errorf("OutputCount of %+v = %d; want %d", list, got, want)
		}
	}
}

// Lists that are no programs: an end without a loop, a loop without an end, too
// deep or too long.
func TestUnrollNoPrograms(t *testing.T) {
	for _, text := range []string{
		"2", ")", ")2", "x)", "2x", "22)", "2))", "2)2", "2))2", "222", ")))", "22)))2", "x2x", "x)x", "o)", "2o", "2o)2o", "2o))o",
		"1111))))", "2222))))", "x2x2x2x2x)x)x)x)x", "222))2)22))))", "222)))2222))))", "2222o))))", "11111)))))",
		"0)", "0x)", "9)", "9x)", "20x))", "2x9))", "x0)x", "o9)",
	} {
		checkNotUnrolled(t, placed(text))
	}
	for depth := range maxStmts/2 + 2 {
		loops, ends := strings.Repeat("1", depth), strings.Repeat(")", depth)
		if depth > maxDepth {
			checkNotUnrolled(t, placed(loops+ends))
			checkNotUnrolled(t, placed(loops+"o"+ends))
		} else {
			checkUnrolled(t, placed(loops+ends))
			checkUnrolled(t, placed(loops+"o"+ends))
		}
		checkNotUnrolled(t, placed(loops+ends+")"))
		checkNotUnrolled(t, placed("1"+loops+ends))
		checkNotUnrolled(t, placed(")"+loops+ends))
		checkNotUnrolled(t, placed(loops+ends+"1"))
	}
}

// The length that counts is that of the list: it does not help that its loops
// have no statements.
func TestUnrollLongLists(t *testing.T) {
	lengths := append(countsFrom(maxStmts-5, 2*maxStmts+5), maxUnrolled-1, maxUnrolled, maxUnrolled+1, 256, 257, 296, 1000)
	for _, length := range lengths {
		texts := []string{
			strings.Repeat("x", length), strings.Repeat("o", length), "1" + strings.Repeat("x", length-2) + ")", strings.Repeat("x", length-2) + "8)",
			"8)" + strings.Repeat("o", length-2), "888" + strings.Repeat("x", length-6) + ")))", strings.Repeat("x", length%2) + strings.Repeat("3)", length/2),
		}
		for _, text := range texts {
			if length > maxStmts {
				checkNotUnrolled(t, placed(text))
			} else {
				checkUnrolled(t, placed(text))
			}
		}
	}
}

// A statement that is not valid, at each position of a program.
func TestUnrollWithOneWrongStatement(t *testing.T) {
	wrong := []impl.Stmt{
		{}, {Op: -1}, {Op: impl.OpEnd + 1}, {Op: math.MinInt64}, {Op: math.MaxInt64}, {Op: impl.OpConst, N: 16}, {Op: impl.OpConst, N: -1},
		{Op: impl.OpInput, A: maxParties}, {Op: impl.OpAdd, C: 1}, {Op: impl.OpMux, C: maxRegs}, {Op: impl.OpOut, A: -1}, {Op: impl.OpOut, Dst: 1},
		{Op: impl.OpLoop}, {Op: impl.OpLoop, N: -1}, {Op: impl.OpLoop, N: maxLoop + 1}, {Op: impl.OpLoop, N: math.MaxInt64}, {Op: impl.OpLoop, N: math.MinInt64},
		{Op: impl.OpLoop, N: 1, A: 1}, {Op: impl.OpEnd, N: 1}, {Op: impl.OpEnd, Dst: -1},
	}
	for _, text := range []string{"x", "o", "1)", "xo", "2x)", "x2o)x", "2x3o)x)o", "8)8)", "222)))", "8" + strings.Repeat("o", 38) + ")", strings.Repeat("x", maxStmts)} {
		checkUnrolled(t, placed(text))
		for position := range len(text) {
			for _, s := range wrong {
				list := placed(text)
				list[position] = s
				checkNotUnrolled(t, list)
				if list = slices.Insert(placed(text), position, s); len(list) <= maxStmts {
					checkNotUnrolled(t, list)
				}
			}
		}
	}
}

// A loop with any number of times: from 1 to MaxLoop it is a program.
func TestUnrollNumbersOfTimes(t *testing.T) {
	numbers := slices.Concat(fieldNumbers, countsFrom(-300, 300))
	for _, times := range numbers {
		for _, body := range []string{"", "x", "xo", "2x)", "2)"} {
			for _, list := range [][]impl.Stmt{
				looped(times, placed(body)), looped(2, looped(times, placed(body)), placed("o")), slices.Concat(placed("o"), looped(times, placed(body)), placed("x")),
			} {
				if times >= 1 && times <= maxLoop {
					checkUnrolled(t, list)
				} else {
					checkNotUnrolled(t, list)
				}
			}
		}
	}
}

// The statements are new memory: what the caller writes into them or behind
// them changes neither the argument nor another result, and the other way round.
func TestUnrolledIsNew(t *testing.T) {
	for _, text := range []string{"", "x", "xo", "1x)", "2x)", "x2o)x", "2x3o)x)o", "8" + strings.Repeat("o", 15) + ")", strings.Repeat("x", maxStmts)} {
		list := placed(text)
		want := unrolledOf(list)
		first, _ := impl.Unroll(list)
		second, _ := impl.Unroll(list)
		first = first[:cap(first)]
		for i := range first {
			first[i] = impl.Stmt{Op: -9, N: -9}
		}
		if !slices.Equal(second, want) || !slices.Equal(list, placed(text)) {
			t.Errorf("the statements of %q share memory with others", text)
		}
		checkUnrolledTo(t, list, want)
		for i := range list {
			list[i] = impl.Stmt{Op: impl.OpEnd}
		}
		if !slices.Equal(second, want) {
			t.Errorf("the unrolled statements of %q changed with the list", text)
		}
	}
}

// No function writes into the list that it is given, or behind it, and what is
// behind it does not count.
func TestUnrollLeavesTheList(t *testing.T) {
	for _, text := range []string{
		"", "x", "2x)", "x2o)x", "2x3o)x)o", "888)))", "2222))))", "2", ")", "x0)", "9o)", "8" + strings.Repeat("o", 15) + ")", "8" + strings.Repeat("o", 15) + ")x",
		"888" + strings.Repeat("x", 34) + ")))", strings.Repeat("x", maxStmts), strings.Repeat("o", maxStmts+1),
	} {
		guarded := placed("9" + text + "o2x)o)9" + strings.Repeat("x", maxUnrolled))
		before := slices.Clone(guarded)
		given := guarded[1 : 1+len(text)]
		for range 3 {
			if impl.ProgramOk(given) {
				checkUnrolled(t, given)
			} else {
				checkNotUnrolled(t, given)
			}
		}
		if !slices.Equal(guarded, before) {
			t.Errorf("the list of %q was changed to %s", text, brief(guarded))
		}
	}
}

// The same arguments have the same results again, whatever was called between.
func TestUnrollAgain(t *testing.T) {
	for range 20 {
		for _, text := range []string{"2", ")", "9x)", "2222))))", "222", strings.Repeat("2", maxStmts), "222" + strings.Repeat("x", maxStmts)} {
			checkNotUnrolled(t, placed(text))
			checkUnrolled(t, placed("8"+strings.Repeat("o", 15)+")x"))
			checkUnrolledTo(t, placed("2x3o)x)o"), placedNumbers("2x3o)x)o", []int{1, 3, 3, 3, 5, 1, 3, 3, 3, 5, 7}))
		}
	}
}
