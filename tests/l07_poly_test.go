package tests

import (
	"math"
	"slices"
	"testing"

	"loop.example/g00979/impl"
)

const (
	maxCountedDegree = 3
	maxCountedField  = 7
)

// smallPrimes are those of the fields for which polynomials are counted.
var smallPrimes = []int{2, 3, 5, 7}

// notDegrees are no degrees of a sharing among 1 to MaxParties parties.
var notDegrees = []int{
	-1, -2, -3, -maxParties, maxParties, maxParties + 1, 2 * maxParties, 256, 65536, 1 << 32, 1<<32 + 1, -1 << 32,
	math.MaxInt64, math.MaxInt64 - 1, math.MinInt64, math.MinInt64 + 1, math.MinInt64 + 2,
}

// partyCounts returns the numbers of parties among which an element of the
// field of p is shared.
func partyCounts(p int) []int { return countsFrom(1, min(maxParties, p-1)) }

// countsFrom returns the numbers from low to high.
func countsFrom(low int, high int) []int {
	counts := []int{}
	for n := low; n <= high; n++ {
		counts = append(counts, n)
	}
	return counts
}

// polyValue is the definition of the value at x of a polynomial.
func polyValue(p int, coefficients []int, x int) int {
	sum, factor := 0, 1
	for _, c := range coefficients {
		sum, factor = sum+c*factor, factor*x%p
	}
	return sum % p
}

// polyValues returns the values at the points.
func polyValues(p int, coefficients []int, points []int) []int {
	values := []int{}
	for _, point := range points {
		values = append(values, polyValue(p, coefficients, point))
	}
	return values
}

// polySharing is the definition of the shares of x from a tape.
func polySharing(p int, x int, n int, k int, tape impl.Tape) []int {
	return polyValues(p, append([]int{x}, tapeList(tape, p, k)...), countsFrom(1, n))
}

// arrangements returns all lists of m different items, in every order.
func arrangements(items []int, m int) [][]int {
	lists := [][]int{{}}
	for range m {
		longer := [][]int{}
		for _, list := range lists {
			for _, item := range items {
				if !slices.Contains(list, item) {
					longer = append(longer, append(slices.Clone(list), item))
				}
			}
		}
		lists = longer
	}
	return lists
}

// sharesAt returns the shares of the parties with these points.
func sharesAt(shares []int, points []int) []int {
	values := []int{}
	for _, point := range points {
		values = append(values, shares[point-1])
	}
	return values
}

func TestPolyAt(t *testing.T) {
	cases := []struct {
		p            int
		coefficients []int
		x, want      int
	}{
		{7, []int{3, 2}, 4, 4},
		{7, []int{3, 2}, 0, 3},
		{7, []int{}, 5, 0},
		{7, nil, 0, 0},
		{7, []int{6}, 6, 6},
		{2, []int{1, 1, 1}, 1, 1},
		{2, []int{0, 1, 0, 1}, 1, 0},
		{13, []int{12, 12, 12, 12}, 12, 0},
		{13, []int{0, 0, 0, 1}, 5, 8},
		{97, []int{1, 2, 3, 4, 5, 6, 7, 8}, 96, 93},
		{97, []int{50, 0, 0, 0, 0, 96}, 40, 40},
		{101, []int{100, 100, 100, 100, 100, 100}, 100, 0},
		{101, []int{1, 100, 55, 37, 2}, 77, 50},
		{101, []int{0, 0, 0, 0, 0, 0, 0, 0, 0, 0, 1}, 2, 14},
	}
	for _, c := range cases {
		if got := impl.PolyAt(c.p, c.coefficients, c.x); got != c.want {
			t.Errorf("PolyAt(%d, %v, %d) = %d; want %d", c.p, c.coefficients, c.x, got, c.want)
		}
	}
}

// Polynomials with no, one and many coefficients at all points of all fields.
func TestPolyAtAllPoints(t *testing.T) {
	for _, p := range primes {
		for _, length := range anyLengths {
			for round := range 4 {
				coefficients := elementList(p, length, round)
				for x := 0; x < p; x += 1 + length/50 {
					if got, want := impl.PolyAt(p, coefficients, x), polyValue(p, coefficients, x); got != want {
						t.Fatalf("PolyAt(%d, %v, %d) = %d; want %d", p, coefficients, x, got, want)
					}
				}
			}
		}
		for x := range p {
			if got := impl.PolyAt(p, nil, x); got != 0 {
				t.Errorf("PolyAt(%d, nil, %d) = %d", p, x, got)
			}
			for c := range p {
				if got := impl.PolyAt(p, []int{c}, x); got != c {
					t.Errorf("PolyAt(%d, [%d], %d) = %d", p, c, x, got)
				}
			}
		}
	}
}

// The value of a sum of polynomials is the sum of their values, also if one of
// them is shorter, and coefficients 0 at the end change nothing.
func TestPolyAtOfSums(t *testing.T) {
	for _, p := range primes {
		for length := range 8 {
			a, b := elementList(p, length, 2), elementList(p, 7, 5)
			sum := slices.Clone(b)
			for i, c := range a {
				sum[i] = (sum[i] + c) % p
			}
			for x := range p {
				want := (impl.PolyAt(p, a, x) + impl.PolyAt(p, b, x)) % p
				if got := impl.PolyAt(p, sum, x); got != want {
					t.Errorf("PolyAt(%d, %v, %d) = %d; want %d", p, sum, x, got, want)
				}
				if impl.PolyAt(p, append(slices.Clone(a), 0, 0), x) != impl.PolyAt(p, a, x) {
					t.Errorf("PolyAt(%d, %v, %d) differs with more coefficients 0", p, a, x)
				}
			}
		}
	}
}

func TestPolyAtInvalid(t *testing.T) {
	check := func(p int, coefficients []int, x int) {
		if got := impl.PolyAt(p, coefficients, x); got != -1 {
			t.Errorf("PolyAt(%d, %v, %d) = %d", p, coefficients, x, got)
		}
	}
	for _, p := range primes {
		for _, bad := range notElements(p) {
			for length := range 8 {
				check(p, elementList(p, length, 1), bad)
				check(p, make([]int, length), bad)
				for place := range length {
					wrong := withNumber(elementList(p, length, 1), place, bad)
					check(p, wrong, 0)
					check(p, wrong, 1)
					check(p, wrong, p-1)
					check(p, wrong, bad)
					check(p, withNumber(make([]int, length), place, bad), 0)
				}
			}
		}
	}
	for _, p := range notPrimes {
		for length := range 4 {
			for _, x := range []int{0, 1, 2, p - 1, p, -1, math.MaxInt64, math.MinInt64} {
				check(p, make([]int, length), x)
				check(p, elementList(2, length, 0), x)
			}
		}
	}
}

// checkPolyShares checks that SharePoly returns the shares of its definition.
func checkPolyShares(t *testing.T, p int, x int, n int, k int, tape impl.Tape) {
	t.Helper()
	shares, after := impl.SharePoly(p, x, n, k, tape)
	if !slices.Equal(shares, polySharing(p, x, n, k, tape)) || after != (impl.Tape{Seed: tape.Seed, At: tape.At + k}) {
		t.Errorf("SharePoly(%d, %d, %d, %d, %v) = %v, %v", p, x, n, k, tape, shares, after)
	}
}

// checkNoPolyShares checks that SharePoly returns no shares and its tape.
func checkNoPolyShares(t *testing.T, p int, x int, n int, k int, tape impl.Tape) {
	t.Helper()
	if shares, after := impl.SharePoly(p, x, n, k, tape); len(shares) != 0 || after != tape {
		t.Errorf("SharePoly(%d, %d, %d, %d, %v) = %v, %v", p, x, n, k, tape, shares, after)
	}
}

func TestSharePoly(t *testing.T) {
	cases := []struct {
		p, x, n, k, seed, at int
		want                 []int
	}{
		{7, 3, 4, 1, 5, 0, []int{5, 0, 2, 4}},
		{7, 3, 4, 0, 5, 0, []int{3, 3, 3, 3}},
		{7, 0, 5, 4, 5, 0, []int{1, 5, 2, 3, 5}},
		{7, 6, 1, 0, 5, 9, []int{6}},
		{2, 0, 1, 0, 0, 0, []int{0}},
		{2, 1, 1, 0, maxWord, 900000, []int{1}},
		{3, 2, 2, 1, 65536, 65535, []int{1, 0}},
		{3, 0, 1, 0, 3, 3, []int{0}},
		{5, 4, 4, 3, 78, 123456, []int{3, 2, 4, 2}},
		{5, 4, 4, 2, 78, 123456, []int{0, 3, 3, 0}},
		{13, 12, 5, 2, maxWord, 0, []int{0, 5, 1, 1, 5}},
		{97, 50, 3, 2, 2147483648, 500000, []int{90, 25, 49}},
		{101, 100, 5, 4, 1, 899999, []int{69, 72, 17, 77, 84}},
		{101, 0, 5, 3, 1, 900000, []int{55, 72, 92, 55, 2}},
		{101, 37, 2, 1, maxWord, 900000, []int{29, 21}},
	}
	for _, c := range cases {
		shares, after := impl.SharePoly(c.p, c.x, c.n, c.k, impl.Tape{Seed: c.seed, At: c.at})
		if !slices.Equal(shares, c.want) || after != (impl.Tape{Seed: c.seed, At: c.at + c.k}) {
			t.Errorf("SharePoly(%d, %d, %d, %d, ..) of %d at %d = %v, %v; want %v", c.p, c.x, c.n, c.k, c.seed, c.at, shares, after, c.want)
		}
	}
}

// Each element of each field is shared among all numbers of parties that are
// less than p, with all degrees.
func TestSharePolyOfAllElements(t *testing.T) {
	for _, p := range primes {
		for x := range p {
			for _, n := range partyCounts(p) {
				for k := range n {
					for seed := range 3 {
						checkPolyShares(t, p, x, n, k, impl.Tape{Seed: seed * 1431655765, At: x + seed})
					}
				}
			}
		}
	}
}

// Shares are dealt from each valid tape up to the limit, and not past it; this
// holds for the degree 0 too, although no word is read for it.
func TestSharePolyOfEdgeTapes(t *testing.T) {
	for _, seed := range edgeWords {
		for _, p := range severalPrimes {
			for _, n := range partyCounts(p) {
				for k := range n {
					for _, at := range dealAts {
						checkPolyShares(t, p, p-1, n, k, impl.Tape{Seed: seed, At: at})
					}
					for _, at := range notDealAts {
						checkNoPolyShares(t, p, p-1, n, k, impl.Tape{Seed: seed, At: at})
					}
				}
			}
		}
	}
}

// The parties' points must be elements other than 0: with p elements there are
// shares for p-1 parties, but not for p or more.
func TestSharePolyOfManyParties(t *testing.T) {
	tape := impl.Tape{Seed: 12, At: 34}
	for _, p := range primes {
		for n := range p + 3 {
			for k := range n + 2 {
				if n >= 1 && n <= maxParties && n < p && k < n {
					checkPolyShares(t, p, 1, n, k, tape)
				} else {
					checkNoPolyShares(t, p, 1, n, k, tape)
				}
			}
		}
	}
}

// Sharings one after the other use the tape without gaps.
func TestSharePolyInTurn(t *testing.T) {
	start := impl.Tape{Seed: 45, At: 8}
	for _, n := range partyCounts(97) {
		for k := range n {
			tape := start
			for x := range 97 {
				checkPolyShares(t, 97, x, n, k, tape)
				_, tape = impl.SharePoly(97, x, n, k, tape)
			}
			if tape != (impl.Tape{Seed: 45, At: 8 + 97*k}) {
				t.Errorf("after sharings of degree %d among %d parties, the tape is %v", k, n, tape)
			}
		}
	}
}

func TestSharePolyInvalidTapes(t *testing.T) {
	for _, tape := range invalidTapes() {
		for _, n := range partyCounts(maxPrime) {
			for k := range n {
				checkNoPolyShares(t, 7, 0, n, k, tape)
				checkNoPolyShares(t, maxPrime, maxPrime-1, n, k, tape)
			}
		}
		checkNoPolyShares(t, 4, 0, 2, 1, tape)
		checkNoPolyShares(t, 7, 7, 2, 1, tape)
		checkNoPolyShares(t, 7, 3, 0, 0, tape)
		checkNoPolyShares(t, 7, 3, 2, 2, tape)
	}
}

func TestSharePolyInvalid(t *testing.T) {
	for _, tape := range []impl.Tape{{}, {Seed: 5, At: 7}, {Seed: maxWord, At: maxDealAt}} {
		for _, p := range primes {
			for _, x := range notElements(p) {
				for n := range maxParties + 2 {
					for k := range n + 1 {
						checkNoPolyShares(t, p, x, n, k, tape)
					}
				}
			}
			for _, n := range notPartyCounts {
				for _, k := range []int{0, 1, 4, n - 1, n, -1} {
					checkNoPolyShares(t, p, 0, n, k, tape)
					checkNoPolyShares(t, p, p-1, n, k, tape)
					checkNoPolyShares(t, p, p, n, k, tape)
				}
			}
			for n := range maxParties + 2 {
				for _, k := range append([]int{n, n + 1}, notDegrees...) {
					checkNoPolyShares(t, p, 0, n, k, tape)
					checkNoPolyShares(t, p, p-1, n, k, tape)
					checkNoPolyShares(t, p, -1, n, k, tape)
				}
			}
		}
		for _, p := range notPrimes {
			for _, x := range []int{0, 1, 2, p - 1, p, -1, math.MaxInt64, math.MinInt64} {
				for n := range maxParties + 2 {
					checkNoPolyShares(t, p, x, n, 0, tape)
					checkNoPolyShares(t, p, x, n, n-1, tape)
				}
			}
		}
	}
}

func TestOpenPoly(t *testing.T) {
	cases := []struct {
		p              int
		points, values []int
		want           int
	}{
		{7, []int{2, 4}, []int{1, 4}, 5},
		{7, []int{1, 2}, []int{5, 0}, 3},
		{2, []int{1}, []int{1}, 1},
		{2, []int{1}, []int{0}, 0},
		{3, []int{2, 1}, []int{1, 1}, 1},
		{3, []int{1, 2}, []int{2, 0}, 1},
		{5, []int{1, 2, 3, 4}, []int{4, 0, 3, 3}, 0},
		{5, []int{4, 2, 1, 3}, []int{1, 4, 0, 2}, 3},
		{7, []int{6, 5, 4, 3, 2}, []int{0, 0, 0, 0, 1}, 1},
		{13, []int{12}, []int{9}, 9},
		{13, []int{1, 12}, []int{12, 0}, 6},
		{97, []int{96, 1, 50, 33, 2}, []int{5, 80, 0, 96, 41}, 46},
		{101, []int{100, 99, 98, 97, 96}, []int{1, 0, 0, 0, 0}, 5},
		{101, []int{7, 70, 100}, []int{33, 100, 5}, 56},
		{101, []int{1, 2, 3, 4, 5}, []int{1, 16, 81, 54, 19}, 0},
	}
	for _, c := range cases {
		if got := impl.OpenPoly(c.p, c.points, c.values); got != c.want {
			t.Errorf("OpenPoly(%d, %v, %v) = %d; want %d", c.p, c.points, c.values, got, c.want)
		}
	}
}

// Any k+1 of the shares open to the value, and any more of them too, whichever
// they are and in whatever order.
func TestAnySharesOpen(t *testing.T) {
	for _, p := range primes {
		for _, n := range partyCounts(p) {
			for k := range n {
				for round, x := range []int{0, 1, p - 1, p / 2} {
					shares, _ := impl.SharePoly(p, x, n, k, impl.Tape{Seed: p, At: 10*n + round})
					for m := k + 1; m <= n; m++ {
						for _, points := range arrangements(countsFrom(1, n), m) {
							values := sharesAt(shares, points)
							if got := impl.OpenPoly(p, points, values); got != x {
								t.Fatalf("OpenPoly(%d, %v, %v) = %d; want %d", p, points, values, got, x)
							}
						}
					}
				}
			}
		}
	}
}

// The shares of all elements open to them, from the first k+1 and the last.
func TestSharesOfAllElementsOpen(t *testing.T) {
	for _, p := range primes {
		for x := range p {
			for _, n := range partyCounts(p) {
				for k := range n {
					shares, _ := impl.SharePoly(p, x, n, k, impl.Tape{Seed: 1000 + n, At: x})
					points := countsFrom(1, n)
					first := impl.OpenPoly(p, points[:k+1], shares[:k+1])
					last := impl.OpenPoly(p, points[n-k-1:], shares[n-k-1:])
					if first != x || last != x || impl.OpenPoly(p, points, shares) != x {
						t.Errorf("p = %d: the shares %v of %d open to %d and %d", p, shares, x, first, last)
					}
				}
			}
		}
	}
}

// All polynomials with at most as many coefficients as there are points are
// opened, so that the values can be any; the points are all those of a field.
func TestOpenPolyOfAllPolynomials(t *testing.T) {
	for _, p := range smallPrimes {
		for m := 1; m < p && m <= maxParties; m++ {
			for i, points := range arrangements(countsFrom(1, p-1), m) {
				// For the greatest numbers of points, some orders are enough.
				if power(p, m) > 1000 && i%97 != 0 {
					continue
				}
				for number := range power(p, m) {
					coefficients := digitsOf(p, m, number)
					values := polyValues(p, coefficients, points)
					if got := impl.OpenPoly(p, points, values); got != coefficients[0] {
						t.Fatalf("OpenPoly(%d, %v, %v) = %d; want %d", p, points, values, got, coefficients[0])
					}
				}
			}
		}
	}
}

// The points need not be those of parties: any different elements but 0 are.
func TestOpenPolyAtAnyPoints(t *testing.T) {
	for _, p := range primes {
		for _, m := range partyCounts(p) {
			for step := 1; step < p; step++ {
				points := []int{}
				for i := range m {
					points = append(points, (i+1)*step%p)
				}
				coefficients := elementList(p, m, step)
				values := polyValues(p, coefficients, points)
				if got := impl.OpenPoly(p, points, values); got != coefficients[0] {
					t.Errorf("OpenPoly(%d, %v, %v) = %d; want %d", p, points, values, got, coefficients[0])
				}
			}
		}
	}
}

// checkNotOpened checks that OpenPoly rejects the points or values.
func checkNotOpened(t *testing.T, p int, points []int, values []int) {
	t.Helper()
	if got := impl.OpenPoly(p, points, values); got != -1 {
		t.Errorf("OpenPoly(%d, %v, %v) = %d", p, points, values, got)
	}
}

// Points that occur twice are rejected, with the same value and with others,
// and so is the point 0, with the value at 0 and with others.
func TestOpenPolyTwiceAndZero(t *testing.T) {
	for _, p := range primes {
		for _, m := range partyCounts(p) {
			for _, points := range arrangements(countsFrom(1, m), m) {
				coefficients := elementList(p, m, 1)
				values := polyValues(p, coefficients, points)
				for place := range m {
					for _, value := range []int{0, p - 1, values[place], coefficients[0]} {
						checkNotOpened(t, p, withNumber(points, place, 0), withNumber(values, place, value))
					}
					for other := range m {
						if other != place {
							twice := withNumber(points, place, points[other])
							checkNotOpened(t, p, twice, values)
							checkNotOpened(t, p, twice, withNumber(values, place, values[other]))
							checkNotOpened(t, p, twice, make([]int, m))
						}
					}
				}
			}
		}
		for m := 2; m <= maxParties+1; m++ {
			checkNotOpened(t, p, slices.Repeat([]int{1}, m), make([]int, m))
			checkNotOpened(t, p, slices.Repeat([]int{p - 1}, m), slices.Repeat([]int{1}, m))
		}
		checkNotOpened(t, p, []int{0}, []int{0})
		checkNotOpened(t, p, []int{0}, []int{p - 1})
		// With all elements but 0, one point more occurs twice or is 0.
		if p <= maxParties {
			for extra := range p {
				checkNotOpened(t, p, append(countsFrom(1, p-1), extra), make([]int, p))
			}
		}
	}
}

func TestOpenPolyLengths(t *testing.T) {
	for _, p := range primes {
		for m := range 2*maxParties + 2 {
			for length := range 2*maxParties + 2 {
				points, values := countsFrom(1, m), elementList(p, length, 1)
				if m != length || m < 1 || m > maxParties || m >= p {
					checkNotOpened(t, p, points, values)
				} else if got := impl.OpenPoly(p, points, values); !impl.IsElement(p, got) {
					t.Errorf("OpenPoly(%d, %v, %v) = %d", p, points, values, got)
				}
			}
		}
		checkNotOpened(t, p, nil, nil)
		checkNotOpened(t, p, []int{}, nil)
		checkNotOpened(t, p, nil, []int{0})
		checkNotOpened(t, p, countsFrom(1, 257), make([]int, 257))
		checkNotOpened(t, p, countsFrom(1, p-1), make([]int, 1000))
	}
}

func TestOpenPolyInvalid(t *testing.T) {
	for _, p := range primes {
		for _, bad := range notElements(p) {
			for m := 1; m <= maxParties+1; m++ {
				points, values := countsFrom(1, m), elementList(p, m, 2)
				for place := range m {
					wrongPoints, wrongValues := withNumber(points, place, bad), withNumber(values, place, bad)
					checkNotOpened(t, p, wrongPoints, values)
					checkNotOpened(t, p, points, wrongValues)
					checkNotOpened(t, p, wrongPoints, wrongValues)
					checkNotOpened(t, p, wrongPoints, make([]int, m))
				}
			}
		}
	}
	for _, p := range notPrimes {
		for m := range maxParties + 2 {
			checkNotOpened(t, p, countsFrom(1, m), make([]int, m))
			checkNotOpened(t, p, countsFrom(1, m), elementList(2, m, 1))
			checkNotOpened(t, p, make([]int, m), make([]int, m))
		}
	}
}

// checkConsistent checks for every k whether the shares are consistent, if
// their polynomial of least degree has this degree.
func checkConsistent(t *testing.T, p int, shares []int, degree int) {
	t.Helper()
	for k := range len(shares) + 3 {
		if got := impl.PolyConsistent(p, shares, k); got != (k >= degree) {
			t.Errorf("PolyConsistent(%d, %v, %d) = %v; the degree is %d", p, shares, k, got, degree)
		}
	}
	for _, k := range []int{100, 1 << 32, math.MaxInt64 - 1, math.MaxInt64} {
		if !impl.PolyConsistent(p, shares, k) {
			t.Errorf("PolyConsistent(%d, %v, %d) = false", p, shares, k)
		}
	}
	for _, k := range []int{-1, -2, -maxParties, -1 << 32, -1<<32 + 5, math.MinInt64, math.MinInt64 + 1, math.MinInt64 + 5} {
		if impl.PolyConsistent(p, shares, k) {
			t.Errorf("PolyConsistent(%d, %v, %d) = true", p, shares, k)
		}
	}
}

// degreeOf returns the place of the last coefficient other than 0, or 0.
func degreeOf(coefficients []int) int {
	degree := 0
	for i, c := range coefficients {
		if c != 0 {
			degree = i
		}
	}
	return degree
}

func TestPolyConsistent(t *testing.T) {
	cases := []struct {
		p      int
		shares []int
		degree int
	}{
		{7, []int{1, 2, 3, 4, 5}, 1},
		{7, []int{1, 4, 2, 2, 4}, 2},
		{7, []int{3, 3, 3}, 0},
		{13, []int{1, 8, 1, 12, 8}, 3},
		{101, []int{1, 16, 81, 54, 19}, 4},
		{101, []int{1, 16, 81, 54, 20}, 4},
		{2, []int{1}, 0},
		{2, []int{0}, 0},
		{3, []int{0, 2}, 1},
		{5, []int{1, 3, 0, 2}, 1},
		{5, []int{1, 3, 0, 3}, 3},
		{101, []int{0, 0, 0, 0, 0}, 0},
		{101, []int{0, 0, 0, 0, 1}, 4},
		{101, []int{100, 0, 0, 0, 0}, 4},
	}
	for _, c := range cases {
		checkConsistent(t, c.p, c.shares, c.degree)
	}
}

// All lists of shares are the values of one polynomial each that has at most
// as many coefficients, and they are consistent with its degree and above.
func TestPolyConsistentOfAllLists(t *testing.T) {
	for _, p := range smallPrimes {
		for _, n := range partyCounts(p) {
			seen := make([]bool, power(p, n))
			for number := range seen {
				coefficients := digitsOf(p, n, number)
				shares := polyValues(p, coefficients, countsFrom(1, n))
				seen[numberOf(p, shares)] = true
				checkConsistent(t, p, shares, degreeOf(coefficients))
			}
			if slices.Contains(seen, false) {
				t.Errorf("some lists of %d shares were not tried for %d", n, p)
			}
		}
	}
}

// The shares of SharePoly are consistent; one wrong share among at least k+2
// is detected, and among k+1 it is not.
func TestOneWrongShare(t *testing.T) {
	for _, p := range primes {
		for _, n := range partyCounts(p) {
			for k := range n {
				shares, _ := impl.SharePoly(p, (3*k+n)%p, n, k, impl.Tape{Seed: 5 * p, At: n})
				if !impl.PolyConsistent(p, shares, k) {
					t.Errorf("PolyConsistent(%d, %v, %d) = false", p, shares, k)
				}
				for place := range n {
					for wrong := range p {
						changed := withNumber(shares, place, wrong)
						want := wrong == shares[place] || n == k+1
						if got := impl.PolyConsistent(p, changed, k); got != want {
							t.Fatalf("PolyConsistent(%d, %v, %d) = %v; the shares are %v", p, changed, k, got, shares)
						}
					}
				}
			}
		}
	}
}

// Also the first parties alone can check their shares, and find the degree if
// they are more.
func TestFirstSharesAreConsistent(t *testing.T) {
	for _, p := range primes {
		tape := impl.Tape{Seed: 81, At: p}
		for _, n := range partyCounts(p) {
			for k := range n {
				shares, _ := impl.SharePoly(p, p-1, n, k, tape)
				degree := degreeOf(append([]int{p - 1}, tapeList(tape, p, k)...))
				for m := 1; m <= n; m++ {
					if m > degree {
						checkConsistent(t, p, shares[:m], degree)
					} else if !impl.PolyConsistent(p, shares[:m], m-1) {
						t.Errorf("PolyConsistent(%d, %v, %d) = false", p, shares[:m], m-1)
					}
				}
			}
		}
	}
}

// checkInconsistent checks that the shares are rejected for every k.
func checkInconsistent(t *testing.T, p int, shares []int) {
	t.Helper()
	for _, k := range []int{0, 1, 2, 3, 4, 5, 6, 100, len(shares) - 1, len(shares), math.MaxInt64, -1, math.MinInt64} {
		if impl.PolyConsistent(p, shares, k) {
			t.Errorf("PolyConsistent(%d, %v, %d) = true", p, shares, k)
		}
	}
}

func TestPolyConsistentInvalid(t *testing.T) {
	for _, p := range primes {
		checkInconsistent(t, p, nil)
		checkInconsistent(t, p, []int{})
		checkInconsistent(t, p, make([]int, 257))
		for n := 1; n <= maxParties+2; n++ {
			if n > maxParties || n >= p {
				checkInconsistent(t, p, make([]int, n))
				checkInconsistent(t, p, slices.Repeat([]int{1}, n))
				checkInconsistent(t, p, elementList(p, n, 1))
			}
			for _, bad := range notElements(p) {
				for place := range n {
					checkInconsistent(t, p, withNumber(make([]int, n), place, bad))
				}
				checkInconsistent(t, p, slices.Repeat([]int{bad}, n))
			}
		}
	}
	for _, p := range notPrimes {
		for n := range maxParties + 2 {
			checkInconsistent(t, p, make([]int, n))
			checkInconsistent(t, p, slices.Repeat([]int{1}, n))
		}
	}
}

// Sums of shares are shares of the sum, also of polynomials with different
// degrees, and so are multiples by a constant and sums with shares of degree 0.
func TestSumsOfPolyShares(t *testing.T) {
	for _, p := range primes {
		for _, n := range partyCounts(p) {
			tape := impl.Tape{Seed: 7 * p, At: n}
			for j := range n {
				for k := range n {
					for round := range 4 {
						x, y, c := (round*5+j)%p, (p-1+round)%p, (round+2)%p
						var a, b, constant []int
						a, tape = impl.SharePoly(p, x, n, j, tape)
						b, tape = impl.SharePoly(p, y, n, k, tape)
						constant, tape = impl.SharePoly(p, c, n, 0, tape)
						sum := impl.AddShares(p, a, b)
						all := impl.AddShares(p, impl.ScaleShares(p, sum, c), constant)
						degree := max(j, k)
						if !impl.PolyConsistent(p, sum, degree) || !impl.PolyConsistent(p, all, degree) {
							t.Fatalf("p = %d: %v or %v is not of degree %d", p, sum, all, degree)
						}
						for m := degree + 1; m <= n; m++ {
							for _, points := range [][]int{countsFrom(1, m), countsFrom(n-m+1, n)} {
								if got := impl.OpenPoly(p, points, sharesAt(sum, points)); got != (x+y)%p {
									t.Errorf("p = %d: %v for %d + %d opens to %d", p, sum, x, y, got)
								}
								if got := impl.OpenPoly(p, points, sharesAt(all, points)); got != ((x+y)*c+c)%p {
									t.Errorf("p = %d: %v for (%d + %d) * %d + %d opens to %d", p, all, x, y, c, c, got)
								}
							}
						}
					}
				}
			}
		}
	}
}

// A tape gives the same coefficients for all values, so the shares of x are
// those of 0 with x added to each.
func TestPolySharesOfOneTape(t *testing.T) {
	for _, p := range primes {
		for _, n := range partyCounts(p) {
			for k := range n {
				tape := impl.Tape{Seed: 300 + k, At: n}
				zero, _ := impl.SharePoly(p, 0, n, k, tape)
				for x := range p {
					shares, _ := impl.SharePoly(p, x, n, k, tape)
					for i, share := range shares {
						if share != (zero[i]+x)%p {
							t.Fatalf("SharePoly(%d, %d, %d, %d, %v) = %v and for 0 %v", p, x, n, k, tape, shares, zero)
						}
					}
				}
			}
		}
	}
}

// Whichever k parties look at their shares, they can see all lists of
// elements, for each value.
func TestAllPolyViewsOccur(t *testing.T) {
	for _, p := range []int{3, 5, 7} {
		for _, n := range partyCounts(p) {
			for k := 1; k < n && power(p, k) <= 125; k++ {
				views := arrangements(countsFrom(1, n), k)
				for x := range p {
					seen := make([]map[int]bool, len(views))
					for i := range views {
						seen[i] = map[int]bool{}
					}
					for seed := range 12 * power(p, k) {
						shares, _ := impl.SharePoly(p, x, n, k, impl.Tape{Seed: seed})
						for i, points := range views {
							seen[i][numberOf(p, sharesAt(shares, points))] = true
						}
					}
					for i, points := range views {
						if len(seen[i]) != power(p, k) {
							t.Errorf("p = %d: %d of %d views at %v occur for %d", p, len(seen[i]), power(p, k), points, x)
						}
					}
				}
			}
		}
	}
}

// allPolynomials returns all lists of k+1 coefficients that begin with x.
func allPolynomials(p int, x int, k int) [][]int {
	list := [][]int{}
	for number := range power(p, k) {
		list = append(list, append([]int{x}, digitsOf(p, k, number)...))
	}
	return list
}

// checkCount checks the number of polynomials.
func checkCount(t *testing.T, p int, x int, k int, points []int, values []int, want int) {
	t.Helper()
	if got := impl.CountPolys(p, x, k, points, values); got != want {
		t.Errorf("CountPolys(%d, %d, %d, %v, %v) = %d; want %d", p, x, k, points, values, got, want)
	}
}

func TestCountPolys(t *testing.T) {
	cases := []struct {
		p, x, k        int
		points, values []int
		want           int
	}{
		{5, 2, 1, []int{1}, []int{4}, 1},
		{5, 2, 2, []int{1}, []int{4}, 5},
		{5, 2, 3, []int{}, []int{}, 125},
		{5, 2, 3, nil, []int{}, 125},
		{7, 6, 3, nil, nil, 343},
		{7, 6, 3, []int{5}, []int{0}, 49},
		{7, 6, 3, []int{5, 1}, []int{0, 2}, 7},
		{7, 6, 3, []int{5, 1, 6}, []int{0, 2, 3}, 1},
		{7, 6, 3, []int{5, 1, 6, 2}, []int{0, 2, 3, 4}, 0},
		{7, 6, 3, []int{5, 1, 6, 2}, []int{2, 5, 4, 5}, 1},
		{7, 6, 3, []int{5, 1, 6, 2, 4}, []int{2, 5, 4, 5, 3}, 1},
		{7, 6, 3, []int{5, 1, 6, 2, 4}, []int{2, 5, 4, 5, 2}, 0},
		{2, 1, 3, []int{1}, []int{0}, 4},
		{2, 1, 0, []int{1}, []int{0}, 0},
		{2, 1, 0, []int{1}, []int{1}, 1},
		{3, 2, 3, []int{1, 2}, []int{0, 0}, 3},
		{3, 1, 2, []int{0}, []int{1}, 9},
		{3, 1, 2, []int{0}, []int{2}, 0},
		{5, 3, 2, []int{4, 4}, []int{1, 1}, 5},
		{5, 3, 2, []int{4, 4}, []int{1, 2}, 0},
		{5, 3, 2, []int{4, 4, 0, 0}, []int{1, 1, 3, 3}, 5},
		{7, 0, 1, []int{1, 2, 3, 4, 5}, []int{2, 4, 6, 1, 3}, 1},
		{7, 0, 1, []int{1, 2, 3, 4, 5}, []int{2, 4, 6, 1, 4}, 0},
		{7, 4, 0, nil, nil, 1},
		{7, 4, 0, []int{1, 2, 3, 4, 5}, []int{4, 4, 4, 4, 4}, 1},
		{7, 4, 0, []int{1, 2, 3, 4, 5}, []int{4, 4, 4, 4, 3}, 0},
	}
	for _, c := range cases {
		checkCount(t, c.p, c.x, c.k, c.points, c.values, c.want)
	}
}

// countByValues counts, for each list of values, the polynomials that have
// these values at the points.
func countByValues(p int, polynomials [][]int, points []int) []int {
	counts := make([]int, power(p, len(points)))
	for _, coefficients := range polynomials {
		counts[numberOf(p, polyValues(p, coefficients, points))]++
	}
	return counts
}

// checkAllViews checks the counts of all values at the points.
func checkAllViews(t *testing.T, p int, x int, k int, points []int) {
	t.Helper()
	for number, want := range countByValues(p, allPolynomials(p, x, k), points) {
		checkCount(t, p, x, k, points, digitsOf(p, len(points), number), want)
	}
}

// The counts are those of all polynomials, for all lists of points, also with
// the point 0 and with points that occur twice, and for all values.
func TestCountPolysOfAllPolynomials(t *testing.T) {
	longest := map[int]int{2: maxParties, 3: 3, 5: 2, 7: 2}
	for _, p := range smallPrimes {
		for k := range maxCountedDegree + 1 {
			for x := range p {
				for m := range longest[p] + 1 {
					for number := range power(p, m) {
						checkAllViews(t, p, x, k, digitsOf(p, m, number))
					}
				}
			}
		}
	}
}

// Longer lists of points, for the values of polynomials with a degree of at
// most 4, some of which are too many.
func TestCountPolysOfManyPoints(t *testing.T) {
	lists := [][]int{
		{1, 2, 3}, {3, 1, 4}, {1, 2, 3, 4}, {4, 2, 3, 1}, {1, 1, 1, 1, 1}, {0, 0, 0, 0, 0}, {0, 1, 2, 3, 4}, {4, 3, 2, 1, 0},
		{2, 2, 3}, {3, 2, 3}, {2, 1, 1}, {0, 1, 0, 2}, {1, 2, 1, 2, 1}, {3, 4, 4, 3, 0}, {2, 0, 2, 4, 1},
	}
	for _, p := range []int{5, 7} {
		for _, points := range lists {
			for k := range maxCountedDegree + 1 {
				for x := range p {
					counts := countByValues(p, allPolynomials(p, x, k), points)
					for round := range 8 {
						coefficients := append([]int{x}, elementList(p, round/2, round)...)
						values := polyValues(p, coefficients, points)
						checkCount(t, p, x, k, points, values, counts[numberOf(p, values)])
						for place := range points {
							wrong := withNumber(values, place, (values[place]+1+round%(p-1))%p)
							checkCount(t, p, x, k, points, wrong, counts[numberOf(p, wrong)])
						}
					}
				}
			}
		}
	}
}

// At most k different points other than 0 say nothing about the value: each
// value is possible, and equally often. One point more leaves one value.
func TestFewSharesSayNothing(t *testing.T) {
	for _, p := range smallPrimes {
		for k := range maxCountedDegree + 1 {
			for m := 0; m <= k && m < p; m++ {
				for i, points := range arrangements(countsFrom(1, p-1), m) {
					for round := range 4 {
						values := elementList(p, m, i+round)
						for x := range p {
							checkCount(t, p, x, k, points, values, power(p, k-m))
						}
					}
				}
			}
			if k+1 < p {
				checkDetermined(t, p, k)
			}
		}
	}
}

// checkDetermined checks that the values at k+1 points leave exactly one value
// possible, which is the one that OpenPoly returns.
func checkDetermined(t *testing.T, p int, k int) {
	t.Helper()
	for i, points := range arrangements(countsFrom(1, p-1), k+1) {
		values := elementList(p, k+1, i)
		opened := impl.OpenPoly(p, points, values)
		for x := range p {
			want := 0
			if x == opened {
				want = 1
			}
			checkCount(t, p, x, k, points, values, want)
		}
	}
}

// What at most k parties see of a sharing is possible for all values, equally
// often; what more parties see is possible for the value that was shared only.
func TestCountPolysOfShares(t *testing.T) {
	for _, p := range smallPrimes {
		for _, n := range partyCounts(p) {
			for k := 0; k < n && k <= maxCountedDegree; k++ {
				for x := range p {
					shares, _ := impl.SharePoly(p, x, n, k, impl.Tape{Seed: 17, At: 5 * x})
					for m := range n + 1 {
						for _, points := range arrangements(countsFrom(1, n), m) {
							if !slices.IsSorted(points) {
								continue
							}
							for y := range p {
								want := 0
								if m <= k {
									want = power(p, k-m)
								} else if y == x {
									want = 1
								}
								checkCount(t, p, y, k, points, sharesAt(shares, points), want)
							}
						}
					}
				}
			}
		}
	}
}

// Degrees and fields up to the limits are counted, and no others.
func TestCountPolysLimits(t *testing.T) {
	for _, p := range primes {
		for k := -3; k <= 9; k++ {
			for _, x := range []int{0, 1, p - 1} {
				want := 0
				if p <= maxCountedField && k >= 0 && k <= maxCountedDegree {
					want = power(p, k)
				}
				checkCount(t, p, x, k, nil, nil, want)
				checkCount(t, p, x, k, []int{0}, []int{x}, want)
				checkCount(t, p, x, k, slices.Repeat([]int{0}, maxParties), slices.Repeat([]int{x}, maxParties), want)
			}
		}
	}
	for _, p := range smallPrimes {
		for _, k := range append([]int{maxCountedDegree + 1}, notDegrees...) {
			for m := range maxParties + 1 {
				checkCount(t, p, 0, k, make([]int, m), make([]int, m), 0)
				checkCount(t, p, 0, k, slices.Repeat([]int{1}, m), make([]int, m), 0)
			}
		}
	}
}

func TestCountPolysLengths(t *testing.T) {
	for _, p := range smallPrimes {
		for k := range maxCountedDegree + 1 {
			for m := range 2*maxParties + 2 {
				for length := range 2*maxParties + 2 {
					want := 0
					if m == length && m <= maxParties {
						want = power(p, k)
					}
					checkCount(t, p, 0, k, make([]int, m), make([]int, length), want)
					checkCount(t, p, 1, k, make([]int, m), slices.Repeat([]int{1}, length), want)
				}
			}
			checkCount(t, p, 0, k, make([]int, 257), make([]int, 257), 0)
			checkCount(t, p, 0, k, nil, make([]int, 1), 0)
			checkCount(t, p, 0, k, make([]int, 1), nil, 0)
		}
	}
}

func TestCountPolysInvalid(t *testing.T) {
	for _, p := range smallPrimes {
		for _, bad := range notElements(p) {
			for k := range maxCountedDegree + 1 {
				for m := range maxParties + 2 {
					zeros := make([]int, m)
					checkCount(t, p, bad, k, zeros, zeros, 0)
					checkCount(t, p, bad, k, zeros, slices.Repeat([]int{bad}, m), 0)
					checkCount(t, p, bad, k, elementList(p, m, 1), elementList(p, m, 2), 0)
					for place := range m {
						checkCount(t, p, 0, k, withNumber(zeros, place, bad), zeros, 0)
						checkCount(t, p, 0, k, zeros, withNumber(zeros, place, bad), 0)
						checkCount(t, p, 0, k, withNumber(zeros, place, bad), withNumber(zeros, place, bad), 0)
						checkCount(t, p, 1, k, withNumber(elementList(p, m, 1), place, bad), slices.Repeat([]int{1}, m), 0)
					}
				}
			}
		}
	}
	for _, p := range notPrimes {
		for k := range maxCountedDegree + 1 {
			for m := range maxParties + 1 {
				for _, x := range []int{0, 1, p - 1, p, -1, math.MaxInt64, math.MinInt64} {
					checkCount(t, p, x, k, make([]int, m), slices.Repeat([]int{x}, m), 0)
				}
			}
		}
	}
}

// The shares are new memory: what the caller writes into them, or behind them,
// is not seen by another call.
func TestPolySharesAreNew(t *testing.T) {
	for _, n := range partyCounts(97) {
		for k := range n {
			tape := impl.Tape{Seed: 2, At: n}
			first, _ := impl.SharePoly(97, 4, n, k, tape)
			second, _ := impl.SharePoly(97, 4, n, k, tape)
			first = first[:cap(first)]
			for i := range first {
				first[i] = -9
			}
			third, _ := impl.SharePoly(97, 4, n, k, tape)
			want := polySharing(97, 4, n, k, tape)
			if !slices.Equal(second, want) || !slices.Equal(third, want) {
				t.Errorf("the shares %v, %v share memory with others", second, third)
			}
		}
	}
}

// usePolyLists calls all functions of polynomials that are given lists.
func usePolyLists(p int, points []int, values []int) {
	for k := -1; k <= maxParties; k++ {
		impl.PolyAt(p, values, k)
		impl.PolyConsistent(p, values, k)
		impl.CountPolys(p, 1, k, points, values)
		impl.CountPolys(p, 1, k, points[:max(0, len(points)-1)], values)
	}
	impl.OpenPoly(p, points, values)
	impl.OpenPoly(p, points, points)
}

// No function writes into the lists that it is given, or behind them, whether
// it accepts them or not.
func TestPolyFunctionsLeaveTheLists(t *testing.T) {
	for _, p := range []int{2, 4, 5, 7, 13, 101} {
		for n := range maxParties + 2 {
			for place := range n + 1 {
				for _, number := range []int{0, 1, -1, p, math.MinInt64} {
					points := append(append([]int{-77}, countsFrom(1, n)...), 3, 4, 5)
					values := append(append([]int{-78}, elementList(7, n, 1)...), 6, 5, 4)
					// The place 0 is before both lists, so they stay as they are.
					points[place], values[place] = number, number
					wantPoints, wantValues := slices.Clone(points), slices.Clone(values)
					usePolyLists(p, points[1:1+n], values[1:1+n])
					if !slices.Equal(points, wantPoints) || !slices.Equal(values, wantValues) {
						t.Fatalf("the lists were changed to %v and %v from %v and %v", points, values, wantPoints, wantValues)
					}
				}
			}
		}
	}
}

// One list can be both the points and the values: they are on the line on
// which each value is its point.
func TestPolyListsOfOneList(t *testing.T) {
	for _, p := range primes[1:] {
		for _, n := range partyCounts(p)[1:] {
			list := countsFrom(1, n)
			if got := impl.OpenPoly(p, list, list); got != 0 || !slices.Equal(list, countsFrom(1, n)) {
				t.Errorf("OpenPoly(%d, %v, ..) of itself = %d", p, list, got)
			}
			if p <= maxCountedField {
				checkCount(t, p, 0, 1, list, list, 1)
			}
		}
	}
}

// The same arguments have the same results again, whatever was called between.
func TestPolySharesAgain(t *testing.T) {
	tape := impl.Tape{Seed: 72, At: 4}
	want, wantAfter := impl.SharePoly(101, 60, maxParties, 3, tape)
	points := countsFrom(1, maxParties)
	for round := range 20 {
		impl.SharePoly(101, round, 3, 2, wantAfter)
		impl.OpenPoly(7, []int{1, 2}, []int{round % 7, 3})
		impl.CountPolys(5, 1, 2, []int{1}, []int{round % 5})
		shares, after := impl.SharePoly(101, 60, maxParties, 3, tape)
		if !slices.Equal(shares, want) || after != wantAfter || impl.OpenPoly(101, points, shares) != 60 || !impl.PolyConsistent(101, shares, 3) {
			t.Error("the shares differ", shares, after)
		}
	}
}
