package tests

import (
	"math"
	"slices"
	"testing"

	"loop.example/g00979/impl"
)

const (
	maxDealAt        = 900000
	maxCountedShares = 4
	maxCountedPrime  = 13
)

// dealAts are positions of tapes from which shares are dealt, and notDealAts
// are positions of valid tapes from which none are.
var (
	dealAts    = []int{0, 1, 2, 255, 256, 65535, 65536, 500000, maxDealAt - 4, maxDealAt - 1, maxDealAt}
	notDealAts = []int{maxDealAt + 1, maxDealAt + 2, 950000, maxTapeAt - 4, maxTapeAt - 1, maxTapeAt}
)

// notPartyCounts are no numbers of parties, also some whose low bits are one.
var notPartyCounts = []int{
	0, -1, -2, -3, -maxParties, maxParties + 1, maxParties + 2, 2 * maxParties, 100, 259, 65539, maxTapeList, 1 << 32, 1<<32 + 3, -1<<32 + 3,
	math.MaxInt64, math.MaxInt64 - 1, math.MinInt64, math.MinInt64 + 1, math.MinInt64 + 3,
}

// severalPrimes are the least and the greatest primes and some between them.
var severalPrimes = []int{2, 3, 7, 13, 17, 97, maxPrime}

// anyLengths are lengths of lists that are added, also above MaxParties.
var anyLengths = []int{0, 1, 2, 3, 4, maxParties, maxParties + 1, 17, 1000}

// sharing is the definition of the shares of x from a tape.
func sharing(p int, x int, n int, tape impl.Tape) []int {
	shares, rest := tapeList(tape, p, n-1), x
	for _, share := range shares {
		rest += p - share
	}
	return append(shares, rest%p)
}

// elementList returns k elements, which other rounds change; it begins with
// the greatest one in round 0.
func elementList(p int, k int, round int) []int {
	list := []int{}
	for i := range k {
		list = append(list, (p-1+7*round+i*i+5*i*round)%p)
	}
	return list
}

// sumOf returns the sum of numbers in the field of p.
func sumOf(p int, list []int) int {
	sum := 0
	for _, a := range list {
		sum += a
	}
	return sum % p
}

// withNumber returns a copy of list with another number at one place.
func withNumber(list []int, place int, number int) []int {
	changed := slices.Clone(list)
	changed[place] = number
	return changed
}

// checkRejectedShares checks that ShareAdd returns no shares and its tape.
func checkRejectedShares(t *testing.T, p int, x int, n int, tape impl.Tape) {
	t.Helper()
	if shares, after := impl.ShareAdd(p, x, n, tape); len(shares) != 0 || after != tape {
		t.Errorf("ShareAdd(%d, %d, %d, %v) = %v, %v", p, x, n, tape, shares, after)
	}
}

// checkShares checks that ShareAdd returns the shares of its definition.
func checkShares(t *testing.T, p int, x int, n int, tape impl.Tape) {
	t.Helper()
	shares, after := impl.ShareAdd(p, x, n, tape)
	if !slices.Equal(shares, sharing(p, x, n, tape)) || after != (impl.Tape{Seed: tape.Seed, At: tape.At + n - 1}) {
		t.Errorf("ShareAdd(%d, %d, %d, %v) = %v, %v", p, x, n, tape, shares, after)
	}
	if got := impl.OpenAdd(p, shares); got != x {
		t.Errorf("OpenAdd(%d, %v) = %d; want %d", p, shares, got, x)
	}
}

func TestShareAdd(t *testing.T) {
	cases := []struct {
		p, x, n, seed, at int
		want              []int
	}{
		{7, 3, 3, 5, 0, []int{2, 3, 5}},
		{7, 3, 1, 5, 0, []int{3}},
		{7, 0, 2, 5, 0, []int{2, 5}},
		{7, 6, 5, 5, 0, []int{2, 3, 3, 0, 5}},
		{2, 0, 2, 0, 0, []int{0, 0}},
		{2, 1, 2, 0, 0, []int{0, 1}},
		{2, 1, 5, 77, 123456, []int{1, 1, 0, 0, 1}},
		{3, 2, 4, 65536, 65535, []int{2, 0, 0, 0}},
		{13, 12, 5, maxWord, 0, []int{12, 2, 3, 7, 1}},
		{97, 50, 3, 2147483648, 500000, []int{44, 93, 10}},
		{101, 100, 5, 1, 899999, []int{15, 54, 11, 91, 30}},
		{101, 0, 5, 1, 900000, []int{54, 11, 91, 18, 28}},
		{101, 100, 1, maxWord, 900000, []int{100}},
		{101, 37, 2, maxWord, 900000, []int{93, 45}},
	}
	for _, c := range cases {
		shares, after := impl.ShareAdd(c.p, c.x, c.n, impl.Tape{Seed: c.seed, At: c.at})
		if !slices.Equal(shares, c.want) || after != (impl.Tape{Seed: c.seed, At: c.at + c.n - 1}) {
			t.Errorf("ShareAdd(%d, %d, %d, ..) of %d at %d = %v, %v; want %v", c.p, c.x, c.n, c.seed, c.at, shares, after, c.want)
		}
		if got := impl.OpenAdd(c.p, c.want); got != c.x {
			t.Errorf("OpenAdd(%d, %v) = %d; want %d", c.p, c.want, got, c.x)
		}
	}
}

// The shares of each element of each field open to it.
func TestShareAddOfAllElements(t *testing.T) {
	for _, p := range primes {
		for x := range p {
			for n := 1; n <= maxParties; n++ {
				for seed := range 5 {
					checkShares(t, p, x, n, impl.Tape{Seed: seed * 858993459, At: x + seed})
				}
			}
		}
	}
}

// Shares are dealt from each valid tape up to the limit, and not past it; a
// single party has the limit too, although its share is not read from the tape.
func TestShareAddOfEdgeTapes(t *testing.T) {
	for _, seed := range edgeWords {
		for _, p := range severalPrimes {
			for _, x := range []int{0, 1, p - 1} {
				for n := 1; n <= maxParties; n++ {
					for _, at := range dealAts {
						checkShares(t, p, x, n, impl.Tape{Seed: seed, At: at})
					}
					for _, at := range notDealAts {
						checkRejectedShares(t, p, x, n, impl.Tape{Seed: seed, At: at})
					}
				}
			}
		}
	}
}

// A single party has the value itself as its share, and no word is read.
func TestShareAddOfOneParty(t *testing.T) {
	for _, p := range primes {
		for x := range p {
			for _, tape := range []impl.Tape{{}, {Seed: 5, At: x}, {Seed: maxWord, At: maxDealAt}} {
				shares, after := impl.ShareAdd(p, x, 1, tape)
				if !slices.Equal(shares, []int{x}) || after != tape || impl.OpenAdd(p, shares) != x {
					t.Errorf("ShareAdd(%d, %d, 1, %v) = %v, %v", p, x, tape, shares, after)
				}
			}
		}
	}
}

// Sharings one after the other use the tape without gaps.
func TestShareAddInTurn(t *testing.T) {
	start := impl.Tape{Seed: 44, At: 6}
	for n := 1; n <= maxParties; n++ {
		tape, read := start, []int{}
		for x := range 97 {
			shares, after := impl.ShareAdd(97, x, n, tape)
			if len(shares) != n || impl.OpenAdd(97, shares) != x {
				t.Fatalf("ShareAdd(97, %d, %d, %v) = %v", x, n, tape, shares)
			}
			read, tape = append(read, shares[:n-1]...), after
		}
		if !slices.Equal(read, tapeList(start, 97, 97*(n-1))) || tape != (impl.Tape{Seed: 44, At: 6 + 97*(n-1)}) {
			t.Errorf("the shares of %d parties are not those of the tape; it is %v", n, tape)
		}
	}
}

func TestShareAddInvalid(t *testing.T) {
	good := []impl.Tape{{}, {Seed: 5, At: 7}, {Seed: maxWord, At: maxDealAt}}
	for _, tape := range invalidTapes() {
		for n := 1; n <= maxParties; n++ {
			checkRejectedShares(t, 2, 0, n, tape)
			checkRejectedShares(t, maxPrime, maxPrime-1, n, tape)
		}
		checkRejectedShares(t, 4, 0, 2, tape)
		checkRejectedShares(t, 7, 7, 2, tape)
		checkRejectedShares(t, 7, 3, 0, tape)
	}
	for _, tape := range good {
		for _, p := range primes {
			for _, x := range notElements(p) {
				for n := range maxParties + 2 {
					checkRejectedShares(t, p, x, n, tape)
				}
			}
			for _, n := range notPartyCounts {
				checkRejectedShares(t, p, 0, n, tape)
				checkRejectedShares(t, p, p-1, n, tape)
				checkRejectedShares(t, p, p, n, tape)
			}
		}
		for _, p := range notPrimes {
			for _, x := range []int{0, 1, 2, p - 1, p, -1, math.MaxInt64, math.MinInt64} {
				for n := range maxParties + 2 {
					checkRejectedShares(t, p, x, n, tape)
				}
			}
		}
	}
}

func TestOpenAdd(t *testing.T) {
	cases := []struct {
		p      int
		shares []int
		want   int
	}{
		{2, []int{0}, 0},
		{2, []int{1}, 1},
		{2, []int{1, 1, 1, 1, 1}, 1},
		{7, []int{6}, 6},
		{7, []int{2, 3, 5}, 3},
		{7, []int{6, 6, 6, 6}, 3},
		{97, []int{96, 1}, 0},
		{101, []int{100, 100, 100, 100, 100}, 96},
		{101, []int{0, 0, 0, 0, 0}, 0},
	}
	for _, c := range cases {
		if got := impl.OpenAdd(c.p, c.shares); got != c.want {
			t.Errorf("OpenAdd(%d, %v) = %d; want %d", c.p, c.shares, got, c.want)
		}
	}
	for _, p := range primes {
		for n := range 2*maxParties + 3 {
			for round := range 20 {
				shares := elementList(p, n, round)
				want := sumOf(p, shares)
				if n < 1 || n > maxParties {
					want = -1
				}
				if got := impl.OpenAdd(p, shares); got != want {
					t.Errorf("OpenAdd(%d, %v) = %d; want %d", p, shares, got, want)
				}
			}
		}
	}
}

func TestOpenAddInvalid(t *testing.T) {
	check := func(p int, shares []int) {
		if got := impl.OpenAdd(p, shares); got != -1 {
			t.Errorf("OpenAdd(%d, %v) = %d", p, shares, got)
		}
	}
	for _, p := range primes {
		check(p, nil)
		check(p, []int{})
		check(p, make([]int, maxParties+1))
		check(p, make([]int, 257))
		for _, bad := range notElements(p) {
			for n := 1; n <= maxParties+1; n++ {
				for place := range n {
					check(p, withNumber(elementList(p, n, place), place, bad))
				}
			}
		}
	}
	for _, p := range notPrimes {
		for n := range maxParties + 2 {
			check(p, make([]int, n))
			check(p, elementList(2, n, 1))
		}
	}
}

func TestAddShares(t *testing.T) {
	cases := []struct {
		p          int
		a, b, want []int
	}{
		{7, []int{1, 2}, []int{6, 4}, []int{0, 6}},
		{7, []int{6, 6, 6}, []int{6, 0, 1}, []int{5, 6, 0}},
		{2, []int{1, 1, 0, 0}, []int{1, 0, 1, 0}, []int{0, 1, 1, 0}},
		{101, []int{100}, []int{100}, []int{99}},
		{13, nil, nil, nil},
		{13, []int{}, nil, nil},
	}
	for _, c := range cases {
		if got := impl.AddShares(c.p, c.a, c.b); !slices.Equal(got, c.want) {
			t.Errorf("AddShares(%d, %v, %v) = %v; want %v", c.p, c.a, c.b, got, c.want)
		}
	}
	for _, p := range primes {
		for _, length := range anyLengths {
			for round := range 10 {
				a, b, want := elementList(p, length, round), elementList(p, length, 3*round+1), []int{}
				for i := range length {
					want = append(want, (a[i]+b[i])%p)
				}
				if got := impl.AddShares(p, a, b); !slices.Equal(got, want) {
					t.Errorf("AddShares(%d, %v, %v) = %v", p, a, b, got)
				}
			}
		}
		for a := range p {
			for b := range p {
				if got := impl.AddShares(p, []int{a, b}, []int{b, b}); !slices.Equal(got, []int{(a + b) % p, 2 * b % p}) {
					t.Fatalf("AddShares(%d, ..) of %d and %d = %v", p, a, b, got)
				}
			}
		}
	}
}

func TestAddSharesInvalid(t *testing.T) {
	check := func(p int, a []int, b []int) {
		if got := impl.AddShares(p, a, b); len(got) != 0 {
			t.Errorf("AddShares(%d, %v, %v) = %v", p, a, b, got)
		}
		if got := impl.AddShares(p, b, a); len(got) != 0 {
			t.Errorf("AddShares(%d, %v, %v) = %v", p, b, a, got)
		}
	}
	for _, p := range severalPrimes {
		for n := range maxParties + 3 {
			for m := range n {
				check(p, elementList(p, n, 1), elementList(p, m, 2))
				check(p, make([]int, n), make([]int, m))
			}
		}
		check(p, make([]int, 1000), make([]int, 999))
	}
	for _, p := range primes {
		for _, bad := range notElements(p) {
			for n := 1; n <= maxParties+1; n++ {
				for place := range n {
					wrong := withNumber(elementList(p, n, n), place, bad)
					check(p, wrong, elementList(p, n, 2))
					check(p, wrong, wrong)
					// Two numbers whose sum would be an element.
					check(p, wrong, withNumber(elementList(p, n, 2), place, -bad))
				}
			}
		}
	}
	for _, p := range notPrimes {
		for n := range maxParties + 2 {
			check(p, make([]int, n), make([]int, n))
			check(p, elementList(2, n, 0), elementList(2, n, 1))
		}
	}
}

func TestScaleShares(t *testing.T) {
	cases := []struct {
		p    int
		a    []int
		k    int
		want []int
	}{
		{7, []int{2, 3, 5}, 2, []int{4, 6, 3}},
		{7, []int{2, 3, 5}, 0, []int{0, 0, 0}},
		{7, []int{2, 3, 5}, 1, []int{2, 3, 5}},
		{2, []int{1, 0, 1}, 1, []int{1, 0, 1}},
		{101, []int{100, 50}, 100, []int{1, 51}},
		{13, nil, 5, nil},
	}
	for _, c := range cases {
		if got := impl.ScaleShares(c.p, c.a, c.k); !slices.Equal(got, c.want) {
			t.Errorf("ScaleShares(%d, %v, %d) = %v; want %v", c.p, c.a, c.k, got, c.want)
		}
	}
	for _, p := range primes {
		for k := range p {
			for _, length := range anyLengths {
				a, want := elementList(p, length, k), []int{}
				for _, share := range a {
					want = append(want, share*k%p)
				}
				if got := impl.ScaleShares(p, a, k); !slices.Equal(got, want) {
					t.Errorf("ScaleShares(%d, %v, %d) = %v", p, a, k, got)
				}
			}
		}
	}
}

func TestAddConstant(t *testing.T) {
	cases := []struct {
		p    int
		a    []int
		k    int
		want []int
	}{
		{7, []int{2, 3, 5}, 5, []int{0, 3, 5}},
		{7, []int{2, 3, 5}, 0, []int{2, 3, 5}},
		{7, []int{6}, 6, []int{5}},
		{2, []int{1, 1}, 1, []int{0, 1}},
		{101, []int{100, 0, 100}, 100, []int{99, 0, 100}},
	}
	for _, c := range cases {
		if got := impl.AddConstant(c.p, c.a, c.k); !slices.Equal(got, c.want) {
			t.Errorf("AddConstant(%d, %v, %d) = %v; want %v", c.p, c.a, c.k, got, c.want)
		}
	}
	for _, p := range primes {
		for k := range p {
			for _, length := range anyLengths {
				a, want := elementList(p, length, 2*k), []int{}
				if length > 0 {
					want = withNumber(a, 0, (a[0]+k)%p)
				}
				if got := impl.AddConstant(p, a, k); !slices.Equal(got, want) {
					t.Errorf("AddConstant(%d, %v, %d) = %v", p, a, k, got)
				}
			}
		}
	}
}

func TestConstantsInvalid(t *testing.T) {
	check := func(p int, a []int, k int) {
		if got := impl.ScaleShares(p, a, k); len(got) != 0 {
			t.Errorf("ScaleShares(%d, %v, %d) = %v", p, a, k, got)
		}
		if got := impl.AddConstant(p, a, k); len(got) != 0 {
			t.Errorf("AddConstant(%d, %v, %d) = %v", p, a, k, got)
		}
	}
	for _, p := range primes {
		check(p, nil, 0)
		check(p, []int{}, p-1)
		for _, bad := range notElements(p) {
			for n := range maxParties + 2 {
				check(p, elementList(p, n, 1), bad)
				check(p, make([]int, n), bad)
				for place := range n {
					wrong := withNumber(elementList(p, n, 1), place, bad)
					check(p, wrong, 0)
					check(p, wrong, 1)
					check(p, wrong, p-1)
					check(p, wrong, bad)
					check(p, wrong, -1)
				}
			}
		}
	}
	for _, p := range notPrimes {
		for n := range maxParties + 2 {
			for _, k := range []int{0, 1, p - 1, p, -1, math.MaxInt64, math.MinInt64} {
				check(p, make([]int, n), k)
				check(p, elementList(2, n, 0), k)
			}
		}
	}
}

// Sums, products with constants and sums with constants of shares open to
// those of the values, also one after the other.
func TestSharesOfResults(t *testing.T) {
	for _, p := range primes {
		for n := 1; n <= maxParties; n++ {
			tape := impl.Tape{Seed: 100*p + n}
			for round := range 60 {
				x, y, k := round*round%p, (3*round+1)%p, (p-1+round*7)%p
				var a, b []int
				a, tape = impl.ShareAdd(p, x, n, tape)
				b, tape = impl.ShareAdd(p, y, n, tape)
				sum, product, more := impl.AddShares(p, a, b), impl.ScaleShares(p, a, k), impl.AddConstant(p, a, k)
				if len(sum) != n || len(product) != n || len(more) != n {
					t.Fatalf("p = %d: unexpected lengths for %v, %v and %d", p, a, b, k)
				}
				if got := impl.OpenAdd(p, sum); got != (x+y)%p {
					t.Errorf("p = %d: %v for %d + %d opens to %d", p, sum, x, y, got)
				}
				if got := impl.OpenAdd(p, product); got != x*k%p {
					t.Errorf("p = %d: %v for %d * %d opens to %d", p, product, x, k, got)
				}
				if got := impl.OpenAdd(p, more); got != (x+k)%p {
					t.Errorf("p = %d: %v for %d + %d opens to %d", p, more, x, k, got)
				}
				all := impl.AddConstant(p, impl.ScaleShares(p, impl.AddShares(p, sum, more), k), y)
				if got := impl.OpenAdd(p, all); got != ((2*x+y+k)*k+y)%p {
					t.Errorf("p = %d: %v of %d, %d and %d opens to %d", p, all, x, y, k, got)
				}
			}
		}
	}
}

// The first shares of a tape are the same for all values, and each value has
// one last share for them, so that all parties but one learn nothing.
func TestSharesSayNothing(t *testing.T) {
	for _, p := range primes {
		for n := 2; n <= maxParties; n++ {
			for seed := range 10 {
				tape := impl.Tape{Seed: seed, At: 10 * n}
				first, _ := impl.ShareAdd(p, 0, n, tape)
				last := make([]bool, p)
				for x := range p {
					shares, _ := impl.ShareAdd(p, x, n, tape)
					if len(shares) != n || !slices.Equal(shares[:n-1], first[:n-1]) || last[shares[n-1]] {
						t.Fatalf("ShareAdd(%d, %d, %d, %v) = %v and for 0 %v", p, x, n, tape, shares, first)
					}
					last[shares[n-1]] = true
				}
			}
		}
	}
}

// Whichever party is missing, the others can see all lists of elements, for
// each value.
func TestAllViewsOccur(t *testing.T) {
	for _, p := range []int{2, 3, 5} {
		for n := 2; n <= maxParties && power(p, n-1) <= 125; n++ {
			for x := range p {
				seen := make([]map[int]bool, n)
				for missing := range n {
					seen[missing] = map[int]bool{}
				}
				for seed := range 3000 {
					shares, _ := impl.ShareAdd(p, x, n, impl.Tape{Seed: seed})
					for missing := range n {
						view := slices.Delete(slices.Clone(shares), missing, missing+1)
						seen[missing][numberOf(p, view)] = true
					}
				}
				for missing := range n {
					if len(seen[missing]) != power(p, n-1) {
						t.Errorf("%d of %d views without party %d occur for %d", len(seen[missing]), power(p, n-1), missing, x)
					}
				}
			}
		}
	}
}

// power returns the number of lists of n elements of the field of p.
func power(p int, n int) int {
	count := 1
	for range n {
		count *= p
	}
	return count
}

// numberOf returns the number with the digits of list to the base p.
func numberOf(p int, list []int) int {
	number := 0
	for _, digit := range list {
		number = number*p + digit
	}
	return number
}

// digitsOf returns the n digits to the base p of a number.
func digitsOf(p int, n int, number int) []int {
	digits := make([]int, n)
	for i := range n {
		digits[n-1-i], number = number%p, number/p
	}
	return digits
}

// countLists counts all lists of n elements: for each length of a view, those
// with the view of each number and with each sum.
func countLists(p int, n int) [][][]int {
	counts := make([][][]int, n+1)
	for seen := range n + 1 {
		counts[seen] = make([][]int, power(p, seen))
		for view := range counts[seen] {
			counts[seen][view] = make([]int, p)
		}
	}
	for number := range power(p, n) {
		list := digitsOf(p, n, number)
		for seen := range n + 1 {
			counts[seen][numberOf(p, list[:seen])][sumOf(p, list)]++
		}
	}
	return counts
}

func TestCountSharings(t *testing.T) {
	cases := []struct {
		p, x, n int
		view    []int
		want    int
	}{
		{5, 2, 3, []int{1}, 5},
		{5, 2, 3, []int{1, 4}, 1},
		{5, 2, 3, []int{1, 4, 2}, 1},
		{5, 2, 3, []int{1, 4, 3}, 0},
		{5, 2, 3, nil, 25},
		{2, 0, 1, nil, 1},
		{2, 1, 1, []int{1}, 1},
		{2, 1, 1, []int{0}, 0},
		{2, 1, 4, nil, 8},
		{13, 12, 4, nil, 2197},
		{13, 0, 4, []int{12}, 169},
		{13, 0, 4, []int{12, 0}, 13},
		{13, 0, 4, []int{12, 0, 12}, 1},
		{13, 0, 4, []int{12, 0, 12, 2}, 1},
		{13, 0, 4, []int{12, 0, 12, 1}, 0},
		{11, 10, 2, []int{}, 11},
	}
	for _, c := range cases {
		if got := impl.CountSharings(c.p, c.x, c.n, c.view); got != c.want {
			t.Errorf("CountSharings(%d, %d, %d, %v) = %d; want %d", c.p, c.x, c.n, c.view, got, c.want)
		}
	}
}

// The counts are those of all lists, for each view and value; and if a share
// is missing, they are the same for all values.
func TestCountSharingsOfAllLists(t *testing.T) {
	for _, p := range primes {
		if p > maxCountedPrime {
			break
		}
		for n := 1; n <= maxCountedShares; n++ {
			for seen, views := range countLists(p, n) {
				for number, counts := range views {
					view := digitsOf(p, seen, number)
					for x, want := range counts {
						got := impl.CountSharings(p, x, n, view)
						if got != want {
							t.Fatalf("CountSharings(%d, %d, %d, %v) = %d; want %d", p, x, n, view, got, want)
						}
						if seen < n && (got < 1 || got != impl.CountSharings(p, 0, n, view)) {
							t.Fatalf("CountSharings(%d, ..) of %v differs for %d and 0", p, view, x)
						}
					}
				}
			}
		}
	}
}

// All parties but one see shares that each value could have, equally often.
func TestCountSharingsOfShares(t *testing.T) {
	for _, p := range []int{2, 3, 5, 7, 11, 13} {
		for n := 1; n <= maxCountedShares; n++ {
			for x := range p {
				shares, _ := impl.ShareAdd(p, x, n, impl.Tape{Seed: 9, At: x})
				for y := range p {
					for seen := range n {
						if got := impl.CountSharings(p, y, n, shares[:seen]); got != power(p, n-1-seen) {
							t.Errorf("CountSharings(%d, %d, %d, %v) = %d", p, y, n, shares[:seen], got)
						}
					}
					if got := impl.CountSharings(p, y, n, shares); (got == 1) != (y == x) || (got == 0) != (y != x) {
						t.Errorf("CountSharings(%d, %d, %d, %v) = %d; the value is %d", p, y, n, shares, got, x)
					}
				}
			}
		}
	}
}

// checkNoSharings checks that there is no sharing.
func checkNoSharings(t *testing.T, p int, x int, n int, view []int) {
	t.Helper()
	if got := impl.CountSharings(p, x, n, view); got != 0 {
		t.Errorf("CountSharings(%d, %d, %d, %v) = %d", p, x, n, view, got)
	}
}

// Numbers of shares that are not counted, and views of more elements.
func TestCountSharingsLengths(t *testing.T) {
	notCounted := append([]int{maxCountedShares + 1, 260, 65537, 1<<32 + 1}, notPartyCounts...)
	for _, p := range []int{2, 3, 5, 7, 11, 13} {
		for x := range p {
			for _, n := range notCounted {
				for seen := range maxParties + 2 {
					view := make([]int, seen)
					checkNoSharings(t, p, x, n, view)
					if seen > 0 {
						checkNoSharings(t, p, x, n, withNumber(view, 0, x))
						checkNoSharings(t, p, x, n, withNumber(view, seen-1, x))
					}
				}
			}
			for n := 1; n <= maxCountedShares; n++ {
				for _, seen := range []int{n + 1, n + 2, 2 * n, maxParties, maxParties + 1, 100} {
					if seen > n {
						checkNoSharings(t, p, x, n, make([]int, seen))
						checkNoSharings(t, p, x, n, withNumber(make([]int, seen), 0, x))
						checkNoSharings(t, p, x, n, withNumber(make([]int, seen), seen-1, x))
					}
				}
			}
		}
	}
}

func TestCountSharingsInvalid(t *testing.T) {
	for _, p := range []int{2, 3, 5, 7, 11, 13} {
		for _, bad := range notElements(p) {
			for n := 1; n <= maxCountedShares; n++ {
				for seen := range n + 2 {
					checkNoSharings(t, p, bad, n, make([]int, seen))
					checkNoSharings(t, p, bad, n, elementList(p, seen, 1))
					for place := range seen {
						view := withNumber(elementList(p, seen, 1), place, bad)
						for x := range p {
							checkNoSharings(t, p, x, n, view)
						}
						checkNoSharings(t, p, bad, n, view)
						checkNoSharings(t, p, bad, n, withNumber(make([]int, seen), place, bad))
					}
				}
			}
		}
	}
	// Fields above the limit, and numbers that have no field.
	above := append(slices.Clone(notPrimes), primes[6:]...)
	for _, p := range above {
		for n := range maxParties + 1 {
			for seen := range n + 2 {
				for _, x := range []int{0, 1, 2, p - 1, p, -1, math.MaxInt64, math.MinInt64} {
					checkNoSharings(t, p, x, n, make([]int, seen))
					if seen > 0 {
						checkNoSharings(t, p, x, n, withNumber(make([]int, seen), seen-1, x))
					}
				}
			}
		}
	}
}

// Each result is new memory: what the caller writes into it, or behind it, is
// seen neither in the arguments nor by another call.
func TestSharesAreNew(t *testing.T) {
	for n := 1; n <= maxParties+1; n++ {
		a, b := elementList(97, n, 1), elementList(97, n, 2)
		wantA, wantB := slices.Clone(a), slices.Clone(b)
		calls := []func() []int{
			func() []int { return impl.AddShares(97, a, b) },
			func() []int { return impl.AddShares(97, a, make([]int, n)) },
			func() []int { return impl.AddShares(97, make([]int, n), b) },
			func() []int { return impl.ScaleShares(97, a, 3) },
			func() []int { return impl.ScaleShares(97, a, 1) },
			func() []int { return impl.ScaleShares(97, b, 0) },
			func() []int { return impl.AddConstant(97, a, 5) },
			func() []int { return impl.AddConstant(97, b, 0) },
			func() []int { shares, _ := impl.ShareAdd(97, 4, min(n, maxParties), impl.Tape{Seed: 2}); return shares },
		}
		for i, call := range calls {
			first, second := call(), call()
			want := slices.Clone(second)
			first = first[:cap(first)]
			for j := range first {
				first[j] = -9
			}
			if !slices.Equal(a, wantA) || !slices.Equal(b, wantB) {
				t.Fatalf("the result of call %d shares memory with its arguments", i)
			}
			if third := call(); !slices.Equal(second, want) || !slices.Equal(third, want) || len(want) == 0 {
				t.Errorf("the results of call %d share memory: %v, %v", i, second, third)
			}
		}
		// The other way round: the results keep nothing of the arguments.
		sum, product, more := impl.AddShares(97, a, b), impl.ScaleShares(97, a, 1), impl.AddConstant(97, b, 0)
		wantSum := slices.Clone(sum)
		clear(a)
		clear(b)
		if !slices.Equal(sum, wantSum) || !slices.Equal(product, wantA) || !slices.Equal(more, wantB) {
			t.Error("the results changed with the arguments", sum, product, more)
		}
	}
}

// One list can be both arguments of AddShares.
func TestAddSharesOfOneList(t *testing.T) {
	list := []int{1, 0, 6, 4}
	sum := impl.AddShares(7, list, list)
	if !slices.Equal(sum, []int{2, 0, 5, 1}) || !slices.Equal(list, []int{1, 0, 6, 4}) {
		t.Error("unexpected sum", sum, list)
	}
}

// No function writes into the lists that it is given, or behind them.
func TestSharesLeaveTheLists(t *testing.T) {
	for n := range maxParties + 2 {
		for _, bad := range []int{0, -1, 13, math.MinInt64} {
			values := elementList(13, n, 1)
			if n > 0 && bad != 0 {
				values[n-1] = bad
			}
			guarded := append(append([]int{-77}, values...), 3, 4, 5)
			before := slices.Clone(guarded)
			given := guarded[1 : 1+n]
			for _, p := range []int{2, 4, 13, 101} {
				for _, k := range []int{0, 1, 12, -1} {
					impl.OpenAdd(p, given)
					impl.AddShares(p, given, given)
					impl.AddShares(p, given, guarded[1:2+n])
					impl.AddShares(p, guarded[:n], given)
					impl.ScaleShares(p, given, k)
					impl.AddConstant(p, given, k)
					impl.CountSharings(p, k, n, given)
					impl.CountSharings(p, k, n+1, given)
				}
			}
			if !slices.Equal(guarded, before) {
				t.Errorf("the list was changed to %v from %v", guarded, before)
			}
		}
	}
}

// The same arguments have the same results again, whatever was called between.
func TestSharesAgain(t *testing.T) {
	tape := impl.Tape{Seed: 71, At: 3}
	want, wantAfter := impl.ShareAdd(101, 60, maxParties, tape)
	for round := range 20 {
		impl.ShareAdd(101, round, 3, wantAfter)
		impl.AddConstant(101, want, round)
		if shares, after := impl.ShareAdd(101, 60, maxParties, tape); !slices.Equal(shares, want) || after != wantAfter || impl.OpenAdd(101, shares) != 60 {
			t.Error("the shares differ", shares, after)
		}
	}
}
