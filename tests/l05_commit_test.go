package tests

import (
	"math"
	"slices"
	"testing"

	"loop.example/g00979/impl"
)

const (
	maxNonce   = 65535
	maxParties = 5
)

// edgeNonces lies around the ends of the range and of the halves of a nonce.
var edgeNonces = []int{0, 1, 2, 20, 21, 22, 127, 128, 255, 256, 257, 32767, 32768, 65279, 65280, maxNonce - 1, maxNonce}

// notNonces has words and other numbers, also some whose low bits are those of
// a nonce.
var notNonces = []int{
	-1, -2, -21, -maxNonce, -maxNonce - 1, maxNonce + 1, maxNonce + 2, 2*maxNonce + 1, 2 * maxNonce, 1000000,
	2147483647, 2147483648, maxWord - 1, maxWord, maxWord + 1, maxWord + 2, -1 << 32, -1<<32 + 5, 1<<40 + 5,
	math.MaxInt64, math.MaxInt64 - 1, math.MinInt64, math.MinInt64 + 1,
}

// oddCounts are numbers of parties that no toss has; 0 is tried apart.
var oddCounts = []int{maxParties + 1, maxParties + 2, 2 * maxParties, 100, 257}

// commitInner is what the value is combined with in the definition of Commit.
func commitInner(nonce int) uint32 { return mixWord(mixWord(uint32(nonce)) ^ 21) }

// commitment is the definition of Commit for a word and a nonce.
func commitment(value int, nonce int) int {
	return int(mixWord(commitInner(nonce) ^ uint32(value)))
}

// committed is the only value with this commitment and nonce.
func committed(commitment int, nonce int) int {
	return int(unmixWord(uint32(commitment)) ^ commitInner(nonce))
}

// honestToss returns a toss of n parties that open what they committed to.
// Different rounds have different values, which are spread over all words.
func honestToss(n int, round int) impl.Toss {
	toss := impl.Toss{}
	for party := range n {
		value := (round*2654435761 + party*40503*65537 + 17) % (maxWord + 1)
		nonce := (round*257 + party*31) % (maxNonce + 1)
		toss.Values = append(toss.Values, value)
		toss.Nonces = append(toss.Nonces, nonce)
		toss.Commitments = append(toss.Commitments, commitment(value, nonce))
	}
	return toss
}

// edgeToss returns a toss of n parties with values and nonces at the ends.
func edgeToss(n int, start int) impl.Toss {
	toss := impl.Toss{}
	for party := range n {
		value := edgeWords[(start+party*7)%len(edgeWords)]
		nonce := edgeNonces[(start+party*5)%len(edgeNonces)]
		toss.Values = append(toss.Values, value)
		toss.Nonces = append(toss.Nonces, nonce)
		toss.Commitments = append(toss.Commitments, commitment(value, nonce))
	}
	return toss
}

func cloneToss(t impl.Toss) impl.Toss {
	return impl.Toss{Values: slices.Clone(t.Values), Nonces: slices.Clone(t.Nonces), Commitments: slices.Clone(t.Commitments)}
}

func sameToss(a impl.Toss, b impl.Toss) bool {
	return slices.Equal(a.Values, b.Values) && slices.Equal(a.Nonces, b.Nonces) && slices.Equal(a.Commitments, b.Commitments)
}

// tossLists returns pointers to the three lists of a toss, in order.
func tossLists(t *impl.Toss) []*[]int { return []*[]int{&t.Values, &t.Nonces, &t.Commitments} }

// coinOf is the definition of the coin of honest parties.
func coinOf(t impl.Toss) int {
	coin := uint32(0)
	for _, value := range t.Values {
		coin ^= uint32(value)
	}
	return int(coin)
}

// checkCheat checks what TossCheat and TossCoin say of a toss with a cheat.
func checkCheat(t *testing.T, toss impl.Toss, want int) {
	t.Helper()
	if got := impl.TossCheat(toss); got != want {
		t.Errorf("TossCheat(%v) = %d; want %d", toss, got, want)
	}
	if coin, ok := impl.TossCoin(toss); coin != 0 || ok {
		t.Errorf("TossCoin(%v) = %d, %v", toss, coin, ok)
	}
}

func TestCommitLimits(t *testing.T) {
	if impl.MaxNonce != maxNonce || impl.MaxParties != maxParties {
		t.Error("the limits differ from the document", impl.MaxNonce, impl.MaxParties)
	}
}

func TestCommit(t *testing.T) {
	cases := []struct{ value, nonce, want int }{
		{0, 0, 2372840666},
		{1, 0, 1621643915},
		{5, 1, 1046069528},
		{9, 2, 3209359303},
		{6, 1, 3392840841},
		{5, 0, 2405299345},
		{5, 2, 476181398},
		{0, 65535, 999374131},
		{4294967295, 0, 2723475067},
		{4294967295, 65535, 2795080478},
		{4294967295, 65534, 3323426938},
		{65535, 1, 579918877},
		{65536, 1, 2524692507},
		{1, 65535, 2038142254},
		{2147483648, 32768, 1810125240},
		{1234567890, 4321, 2508545635},
	}
	for _, c := range cases {
		if got := impl.Commit(c.value, c.nonce); got != c.want || got != impl.Keyed(c.nonce, 21, c.value) {
			t.Errorf("Commit(%d, %d) = %d; want %d", c.value, c.nonce, got, c.want)
		}
		if !impl.OpenOk(c.want, c.value, c.nonce) {
			t.Errorf("OpenOk(%d, %d, %d) = false", c.want, c.value, c.nonce)
		}
	}
}

// Every nonce can be used, with the least and the greatest value.
func TestCommitOfAllNonces(t *testing.T) {
	for nonce := range maxNonce + 1 {
		for _, value := range []int{0, 1, nonce, nonce * 65536, maxWord - nonce, maxWord} {
			got := impl.Commit(value, nonce)
			if got != commitment(value, nonce) || !impl.IsWord(got) || !impl.OpenOk(got, value, nonce) {
				t.Fatalf("Commit(%d, %d) = %d", value, nonce, got)
			}
		}
	}
}

func TestCommitInvalid(t *testing.T) {
	check := func(value int, nonce int) {
		if got := impl.Commit(value, nonce); got != 0 {
			t.Errorf("Commit(%d, %d) = %d", value, nonce, got)
		}
	}
	for _, value := range notWords {
		for _, nonce := range edgeNonces {
			check(value, nonce)
		}
		for _, nonce := range notNonces {
			check(value, nonce)
		}
	}
	for _, value := range edgeWords {
		for _, nonce := range notNonces {
			check(value, nonce)
		}
	}
}

// Different values of one nonce have different commitments.
func TestCommitmentsDiffer(t *testing.T) {
	for _, nonce := range []int{0, 1, 21, 32768, 65280, maxNonce} {
		values := map[int]int{}
		add := func(value int) {
			c := impl.Commit(value, nonce)
			if other, found := values[c]; found && other != value {
				t.Fatalf("Commit(%d, %d) = Commit(%d, %d) = %d", value, nonce, other, nonce, c)
			}
			values[c] = value
		}
		for value := range 40000 {
			add(value)
			add(maxWord - value)
			add(value * 65536)
			add(value * 65537)
			add(value * 104729)
		}
		for _, value := range edgeWords {
			add(value)
		}
	}
}

// The value can be computed from the commitment and the nonce, so it is the
// only one; each word is a commitment, also 0, the result for invalid numbers.
func TestCommitmentHasOneValue(t *testing.T) {
	for _, nonce := range edgeNonces {
		for _, c := range edgeWords {
			value := committed(c, nonce)
			if got := impl.Commit(value, nonce); got != c {
				t.Errorf("Commit(%d, %d) = %d; want %d", value, nonce, got, c)
			}
			if !impl.OpenOk(c, value, nonce) {
				t.Errorf("OpenOk(%d, %d, %d) = false", c, value, nonce)
			}
			for bit := range 32 {
				if other := value ^ 1<<bit; impl.OpenOk(c, other, nonce) {
					t.Errorf("OpenOk(%d, %d, %d) = true; the value is %d", c, other, nonce, value)
				}
			}
			for other := range 2000 {
				if impl.OpenOk(c, other, nonce) != (other == value) || impl.OpenOk(c, other*2146337, nonce) != (other*2146337 == value) {
					t.Fatalf("the commitment %d of %d with %d was opened with another value", c, value, nonce)
				}
			}
		}
		for value := range 3000 {
			if got := impl.Commit(value*1431655, nonce); committed(got, nonce) != value*1431655 {
				t.Fatalf("Commit(%d, %d) = %d", value*1431655, nonce, got)
			}
		}
	}
}

// A commitment to an edge value is opened with exactly this value.
func TestOpenOkOfEdgeWords(t *testing.T) {
	for _, nonce := range edgeNonces {
		for _, value := range edgeWords {
			c := commitment(value, nonce)
			for _, other := range edgeWords {
				if got := impl.OpenOk(c, other, nonce); got != (other == value) {
					t.Errorf("OpenOk(%d, %d, %d) = %v; the value is %d", c, other, nonce, got, value)
				}
			}
			for _, other := range edgeNonces {
				if got := impl.OpenOk(c, value, other); got != (commitment(value, other) == c) {
					t.Errorf("OpenOk(%d, %d, %d) = %v; the nonce is %d", c, value, other, got, nonce)
				}
			}
		}
	}
	if impl.OpenOk(commitment(5, 1), 5, 2) || impl.OpenOk(commitment(5, 1), 1, 5) || impl.OpenOk(commitment(1, 5), 5, 1) {
		t.Error("a commitment was opened with another nonce")
	}
}

// A number that is no commitment of the value is not opened, also if its low
// bits are those of the commitment.
func TestOpenOkOfOtherCommitments(t *testing.T) {
	for _, nonce := range edgeNonces {
		for _, value := range edgeWords {
			c := commitment(value, nonce)
			others := []int{c - 1, c + 1, -c - 1, c + maxWord + 1, c - maxWord - 1, c ^ 1<<31, c ^ 1<<16, c ^ 1<<40, ^c, c | math.MinInt64, math.MaxInt64, math.MinInt64, -1, maxWord + 1, value, nonce}
			for _, other := range others {
				if other != c && impl.OpenOk(other, value, nonce) {
					t.Errorf("OpenOk(%d, %d, %d) = true", other, value, nonce)
				}
			}
		}
	}
}

// Nothing is opened with numbers that cannot be committed to: neither 0, the
// result of Commit, nor what the commitment of their low bits would be.
func TestOpenOkInvalid(t *testing.T) {
	check := func(value int, nonce int) {
		low := commitment(value&maxWord, nonce&maxNonce)
		wide := int(mixWord(mixWord(mixWord(uint32(nonce))^21) ^ uint32(value)))
		for _, c := range []int{0, 1, -1, low, wide, value, nonce, maxWord, impl.Keyed(nonce, 21, value), impl.Commit(value, nonce), math.MaxInt64, math.MinInt64} {
			if impl.OpenOk(c, value, nonce) {
				t.Errorf("OpenOk(%d, %d, %d) = true", c, value, nonce)
			}
		}
	}
	for _, value := range notWords {
		for _, nonce := range edgeNonces {
			check(value, nonce)
		}
		for _, nonce := range notNonces {
			check(value, nonce)
		}
	}
	for _, value := range edgeWords {
		for _, nonce := range notNonces {
			check(value, nonce)
		}
	}
}

func TestTossNew(t *testing.T) {
	toss, ok := impl.TossNew([]int{5, 9, maxWord}, []int{1, 2, 65534})
	want := impl.Toss{Values: []int{5, 9, maxWord}, Nonces: []int{1, 2, 65534}, Commitments: []int{1046069528, 3209359303, 3323426938}}
	if !ok || !sameToss(toss, want) {
		t.Error("unexpected toss", toss, ok)
	}
	if coin, ok := impl.TossCoin(toss); coin != maxWord-12 || !ok || impl.TossCheat(toss) != -1 {
		t.Error("unexpected coin", coin, ok, impl.TossCheat(toss))
	}
}

// A toss is opened by all parties, whatever they chose.
func TestTossOfAllSizes(t *testing.T) {
	check := func(want impl.Toss) {
		toss, ok := impl.TossNew(want.Values, want.Nonces)
		if !ok || !sameToss(toss, want) {
			t.Errorf("TossNew(%v, %v) = %v, %v", want.Values, want.Nonces, toss, ok)
		}
		if got := impl.TossCheat(toss); got != -1 {
			t.Errorf("TossCheat(%v) = %d", toss, got)
		}
		if coin, ok := impl.TossCoin(toss); coin != coinOf(want) || !ok {
			t.Errorf("TossCoin(%v) = %d, %v; want %d", toss, coin, ok, coinOf(want))
		}
	}
	for n := 1; n <= maxParties; n++ {
		for round := range 500 {
			check(honestToss(n, round))
			check(edgeToss(n, round))
		}
	}
	for _, value := range edgeWords {
		for _, nonce := range edgeNonces {
			check(impl.Toss{Values: []int{value}, Nonces: []int{nonce}, Commitments: []int{commitment(value, nonce)}})
		}
	}
}

func TestTossNewInvalidLengths(t *testing.T) {
	check := func(values []int, nonces []int) {
		if toss, ok := impl.TossNew(values, nonces); ok || !sameToss(toss, impl.Toss{}) {
			t.Errorf("TossNew(%v, %v) = %v, %v", values, nonces, toss, ok)
		}
	}
	check(nil, nil)
	check([]int{}, []int{})
	for _, n := range oddCounts {
		check(make([]int, n), make([]int, n))
		check(honestToss(n, 3).Values, honestToss(n, 3).Nonces)
	}
	for n := range maxParties + 3 {
		for m := range maxParties + 3 {
			if n != m {
				check(make([]int, n), make([]int, m))
				check(honestToss(n, 8).Values, honestToss(m, 8).Nonces)
			}
		}
	}
}

func TestTossNewInvalidNumbers(t *testing.T) {
	check := func(values []int, nonces []int) {
		if toss, ok := impl.TossNew(values, nonces); ok || !sameToss(toss, impl.Toss{}) {
			t.Errorf("TossNew(%v, %v) = %v, %v", values, nonces, toss, ok)
		}
	}
	for n := 1; n <= maxParties; n++ {
		for party := range n {
			for i, value := range notWords {
				toss := honestToss(n, i)
				toss.Values[party] = value
				check(toss.Values, toss.Nonces)
				toss.Nonces[n-1-party] = notNonces[i%len(notNonces)]
				check(toss.Values, toss.Nonces)
			}
			for i, nonce := range notNonces {
				toss := honestToss(n, i)
				toss.Nonces[party] = nonce
				check(toss.Values, toss.Nonces)
			}
		}
	}
}

// Each list of a toss is new memory: what the caller writes into it, or behind
// it, is seen neither in the arguments nor in the other lists, nor the reverse.
func TestTossNewIsNew(t *testing.T) {
	for n := 1; n <= maxParties; n++ {
		want := honestToss(n, 6)
		values, nonces := slices.Clone(want.Values), slices.Clone(want.Nonces)
		for place := range 3 {
			toss, _ := impl.TossNew(values, nonces)
			list := *tossLists(&toss)[place]
			list = list[:cap(list)]
			for i := range list {
				list[i] = -9
			}
			expected := cloneToss(want)
			for i := range n {
				(*tossLists(&expected)[place])[i] = -9
			}
			if !sameToss(toss, expected) || !slices.Equal(values, want.Values) || !slices.Equal(nonces, want.Nonces) {
				t.Errorf("list %d of the toss of %d parties shares memory", place, n)
			}
		}
		toss, _ := impl.TossNew(values, nonces)
		clear(values)
		clear(nonces)
		if !sameToss(toss, want) {
			t.Errorf("the toss of %d parties changed with its arguments: %v", n, toss)
		}
	}
}

// One list can be both arguments, and the toss still has lists of its own.
func TestTossNewOfOneList(t *testing.T) {
	list := []int{7, 0, maxNonce, 21}
	toss, ok := impl.TossNew(list, list)
	if !ok || !slices.Equal(toss.Values, list) || !slices.Equal(toss.Nonces, list) {
		t.Fatal("unexpected toss", toss, ok)
	}
	toss.Values[0], toss.Commitments[1] = 8, 8
	if list[0] != 7 || toss.Nonces[0] != 7 || toss.Nonces[1] != 0 || toss.Values[1] != 0 {
		t.Error("the lists share memory", list, toss)
	}
}

// A wrong number of any party, in any list, is attributed to this party.
func TestTossCheatOfOneParty(t *testing.T) {
	for n := 1; n <= maxParties; n++ {
		for party := range n {
			for place := range 3 {
				for round := range 40 {
					toss := honestToss(n, round)
					list := *tossLists(&toss)[place]
					// Another number that may stand here, by one bit.
					list[party] ^= 1 << (round % 16)
					if commitment(toss.Values[party], toss.Nonces[party]) == toss.Commitments[party] {
						t.Fatal("the changed toss is honest", toss)
					}
					checkCheat(t, toss, party)
				}
			}
		}
	}
}

// Numbers that may not stand in a list are attributed to their party as well.
func TestTossCheatOfInvalidNumbers(t *testing.T) {
	invalid := [][]int{notWords, notNonces, notWords}
	for n := 1; n <= maxParties; n++ {
		for party := range n {
			for place, numbers := range invalid {
				for i, bad := range numbers {
					toss := honestToss(n, i)
					(*tossLists(&toss)[place])[party] = bad
					checkCheat(t, toss, party)
					// The result of Commit for these numbers, or of their low bits.
					toss.Commitments[party] = 0
					checkCheat(t, toss, party)
					if place != 2 {
						toss.Commitments[party] = commitment(toss.Values[party]&maxWord, toss.Nonces[party]&maxNonce)
						checkCheat(t, toss, party)
					}
				}
			}
		}
	}
}

// Of several wrong openings, the first one counts, in whatever lists they are.
func TestTossCheatOfSeveralParties(t *testing.T) {
	for n := 2; n <= maxParties; n++ {
		for first := range n {
			for second := first + 1; second < n; second++ {
				for places := range 9 {
					toss := honestToss(n, places)
					(*tossLists(&toss)[places/3])[first] ^= 1
					(*tossLists(&toss)[places%3])[second] ^= 1
					checkCheat(t, toss, first)
					(*tossLists(&toss)[places%3])[second] = -1
					checkCheat(t, toss, first)
				}
			}
		}
		// From a party on, all of them open wrongly.
		for first := range n {
			toss := honestToss(n, 12)
			for party := first; party < n; party++ {
				toss.Values[party] = (toss.Values[party] + 1) % (maxWord + 1)
			}
			checkCheat(t, toss, first)
		}
	}
}

// A party cannot open the commitment of another one.
func TestTossCheatOfExchangedParties(t *testing.T) {
	for n := 2; n <= maxParties; n++ {
		for place := range 3 {
			for other := 1; other < n; other++ {
				toss := honestToss(n, 9)
				list := *tossLists(&toss)[place]
				list[0], list[other] = list[other], list[0]
				checkCheat(t, toss, 0)
			}
		}
	}
}

// TossCheat judges a toss of any number of parties, which has no coin if there
// are too many.
func TestTossCheatOfManyParties(t *testing.T) {
	for _, n := range oddCounts {
		for _, party := range []int{0, 1, maxParties - 1, maxParties, n - 1} {
			for place := range 3 {
				toss := honestToss(n, 2)
				checkCheat(t, toss, -1)
				(*tossLists(&toss)[place])[party] ^= 1
				checkCheat(t, toss, party)
			}
		}
	}
}

func TestTossOfNoParties(t *testing.T) {
	checkCheat(t, impl.Toss{}, -1)
	checkCheat(t, impl.Toss{Values: []int{}, Nonces: []int{}, Commitments: []int{}}, -1)
	checkCheat(t, impl.Toss{Values: []int{}, Commitments: make([]int, 0, 4)}, -1)
}

// Lists of different lengths have no cheat and no coin, whatever they contain.
func TestTossOfDifferentLengths(t *testing.T) {
	for a := range maxParties + 3 {
		for b := range maxParties + 3 {
			for c := range maxParties + 3 {
				if a == b && b == c {
					continue
				}
				whole := honestToss(maxParties+2, a+b+c)
				checkCheat(t, impl.Toss{Values: whole.Values[:a], Nonces: whole.Nonces[:b], Commitments: whole.Commitments[:c]}, -1)
				checkCheat(t, impl.Toss{Values: make([]int, a), Nonces: make([]int, b), Commitments: make([]int, c)}, -1)
			}
		}
	}
}

// In each place, a list that is shorter or longer than the other two rejects a
// toss with a wrong opening too.
func TestTossOfOneOtherLength(t *testing.T) {
	for n := 1; n <= maxParties; n++ {
		for place := range 3 {
			for wrong := range 3 {
				for party := range n {
					toss := honestToss(n, 4)
					(*tossLists(&toss)[wrong])[party] = -1
					list := tossLists(&toss)[place]
					longer := append(slices.Clone(*list), 0)
					for _, other := range [][]int{nil, (*list)[:n-1], (*list)[1:], longer} {
						changed := cloneToss(toss)
						*tossLists(&changed)[place] = other
						checkCheat(t, changed, -1)
					}
				}
			}
		}
	}
}

func TestTossCoin(t *testing.T) {
	cases := []struct {
		values []int
		want   int
	}{
		{[]int{0}, 0},
		{[]int{maxWord}, maxWord},
		{[]int{5, 9}, 12},
		{[]int{9, 5}, 12},
		{[]int{7, 7}, 0},
		{[]int{maxWord, 0}, maxWord},
		{[]int{maxWord, maxWord}, 0},
		{[]int{65536, 65535, 131071}, 0},
		{[]int{2147483648, 1, 2, 4}, 2147483655},
		{[]int{1, 2, 4, 8, 16}, 31},
		{[]int{maxWord, maxWord, maxWord, maxWord, maxWord}, maxWord},
		{[]int{0, 0, 0, 0, 3}, 3},
	}
	for _, c := range cases {
		for _, start := range []int{0, 1, 32768, maxNonce - maxParties + 1} {
			toss := impl.Toss{Values: c.values}
			for party, value := range c.values {
				toss.Nonces = append(toss.Nonces, start+party)
				toss.Commitments = append(toss.Commitments, commitment(value, start+party))
			}
			if coin, ok := impl.TossCoin(toss); coin != c.want || !ok {
				t.Errorf("TossCoin(%v) = %d, %v; want %d", toss, coin, ok, c.want)
			}
		}
	}
}

// Whatever the others chose, each word can be the coin by the choice of one
// party, so that one honest party suffices.
func TestTossCoinOfOneHonestParty(t *testing.T) {
	for n := 1; n <= maxParties; n++ {
		for party := range n {
			for round, want := range edgeWords {
				toss := honestToss(n, round)
				values := toss.Values
				values[party] ^= coinOf(toss) ^ want
				toss, ok := impl.TossNew(values, toss.Nonces)
				if coin, is := impl.TossCoin(toss); coin != want || !ok || !is {
					t.Errorf("TossCoin(%v) = %d, %v; want %d", toss, coin, is, want)
				}
			}
		}
	}
}

// A commitment of 0 is like any other one.
func TestTossWithCommitmentZero(t *testing.T) {
	for _, nonce := range edgeNonces {
		value := committed(0, nonce)
		toss, ok := impl.TossNew([]int{3, value}, []int{4, nonce})
		if !ok || toss.Commitments[1] != 0 || impl.TossCheat(toss) != -1 {
			t.Error("unexpected toss", toss, ok, impl.TossCheat(toss))
		}
		if coin, ok := impl.TossCoin(toss); coin != value^3 || !ok {
			t.Errorf("TossCoin(%v) = %d, %v", toss, coin, ok)
		}
		toss.Values[1] ^= 1
		checkCheat(t, toss, 1)
	}
}

// No function writes into the lists that it is given, or behind them.
func TestTossLeavesTheLists(t *testing.T) {
	tosses := []impl.Toss{{}, honestToss(1, 1), honestToss(3, 2), honestToss(maxParties, 3), honestToss(maxParties+1, 4)}
	for n := 1; n <= maxParties; n++ {
		for place := range 3 {
			cheat := honestToss(n, 5)
			(*tossLists(&cheat)[place])[n/2] = -1
			short := honestToss(n, 5)
			list := tossLists(&short)[place]
			*list = (*list)[:n-1]
			tosses = append(tosses, cheat, short)
		}
	}
	for _, toss := range tosses {
		guarded := [3][]int{}
		given := impl.Toss{}
		for place, list := range tossLists(&toss) {
			guarded[place] = append(append([]int{-77}, *list...), -78, -79, -80)
			*tossLists(&given)[place] = guarded[place][1 : 1+len(*list)]
		}
		before := [3][]int{slices.Clone(guarded[0]), slices.Clone(guarded[1]), slices.Clone(guarded[2])}
		impl.TossNew(given.Values, given.Nonces)
		impl.TossNew(given.Values, given.Values)
		impl.TossCheat(given)
		impl.TossCoin(given)
		for place := range 3 {
			if !slices.Equal(guarded[place], before[place]) {
				t.Errorf("list %d was changed to %v from %v", place, guarded[place], before[place])
			}
		}
		if !sameToss(given, toss) {
			t.Error("the toss was changed", given, toss)
		}
	}
}

// The same arguments have the same results again.
func TestTossAgain(t *testing.T) {
	want := honestToss(maxParties, 21)
	first, _ := impl.TossNew(want.Values, want.Nonces)
	cheat := cloneToss(first)
	cheat.Values[2] ^= 1
	for range 3 {
		checkCheat(t, cheat, 2)
		again, ok := impl.TossNew(want.Values, want.Nonces)
		if !ok || !sameToss(first, want) || !sameToss(again, want) {
			t.Error("the toss differs", first, again, ok)
		}
		if coin, ok := impl.TossCoin(again); coin != coinOf(want) || !ok {
			t.Error("the coin differs", coin, ok)
		}
	}
}
