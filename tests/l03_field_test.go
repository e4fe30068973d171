package tests

import (
	"math"
	"slices"
	"testing"

	"loop.example/g00979/impl"
)

const maxPrime = 101

var primes = []int{2, 3, 5, 7, 11, 13, 17, 19, 23, 29, 31, 37, 41, 43, 47, 53, 59, 61, 67, 71, 73, 79, 83, 89, 97, 101}

// notPrimes are no primes of a field: 0 and 1, numbers with divisors, primes
// above MaxPrime, negative numbers, and numbers whose low bits are a prime.
var notPrimes = []int{
	0, 1, 4, 6, 8, 9, 10, 15, 21, 25, 27, 33, 35, 49, 51, 55, 57, 63, 65, 77, 85, 87, 91, 93, 95, 98, 99, 100,
	102, 103, 107, 109, 113, 121, 127, 169, 211, 257, 65537, 2147483647, 4294967291, 1<<32 + 2, 1<<32 + 7, 1<<62 + 5,
	9223372036854775783, math.MaxInt64 - 1, math.MaxInt64,
	-1, -2, -3, -5, -7, -97, -101, -103, -1<<32 + 7, math.MinInt64, math.MinInt64 + 1, math.MinInt64 + 7,
}

// notElements returns numbers that are not elements, also if they are the
// numbers of elements plus or minus a multiple of p or of a power of 2.
func notElements(p int) []int {
	return []int{
		-1, -2, -p, -p - 1, -p + 1, p, p + 1, p + 2, 2*p - 1, 2 * p, p * p, maxPrime, maxPrime + 1,
		256, 65536, 1 << 32, 1<<32 + 1, -1 << 32, 1 << 62, math.MaxInt64, math.MaxInt64 - 1, math.MinInt64, math.MinInt64 + 1,
	}
}

func TestMaxPrime(t *testing.T) {
	if impl.MaxPrime != maxPrime {
		t.Error("the limit differs from the document", impl.MaxPrime)
	}
}

func TestFieldOk(t *testing.T) {
	for p := -1000; p <= 70000; p++ {
		if got, want := impl.FieldOk(p), slices.Contains(primes, p); got != want {
			t.Errorf("FieldOk(%d) = %v; want %v", p, got, want)
		}
	}
	for _, p := range notPrimes {
		if impl.FieldOk(p) {
			t.Errorf("FieldOk(%d) = true", p)
		}
	}
}

func TestIsElement(t *testing.T) {
	for _, p := range primes {
		for a := -2 * p; a <= 3*p; a++ {
			if got, want := impl.IsElement(p, a), a >= 0 && a < p; got != want {
				t.Errorf("IsElement(%d, %d) = %v; want %v", p, a, got, want)
			}
		}
		for _, a := range []int{1 << 32, 1<<32 + 1, -1 << 32, 1 << 62, math.MaxInt64, math.MinInt64, math.MinInt64 + 1} {
			if impl.IsElement(p, a) {
				t.Errorf("IsElement(%d, %d) = true", p, a)
			}
		}
	}
	for _, p := range notPrimes {
		for _, a := range []int{0, 1, 2, p - 1, p, p / 2, -1, math.MaxInt64, math.MinInt64} {
			if impl.IsElement(p, a) {
				t.Errorf("IsElement(%d, %d) = true", p, a)
			}
		}
	}
}

func TestFieldOperations(t *testing.T) {
	cases := []struct{ p, a, b, sum, difference, product int }{
		{2, 0, 0, 0, 0, 0},
		{2, 0, 1, 1, 1, 0},
		{2, 1, 0, 1, 1, 0},
		{2, 1, 1, 0, 0, 1},
		{3, 1, 2, 0, 2, 2},
		{3, 2, 2, 1, 0, 1},
		{7, 5, 4, 2, 1, 6},
		{7, 2, 5, 0, 4, 3},
		{7, 3, 5, 1, 5, 1},
		{7, 0, 6, 6, 1, 0},
		{7, 6, 0, 6, 6, 0},
		{7, 6, 6, 5, 0, 1},
		{13, 12, 1, 0, 11, 12},
		{97, 96, 95, 94, 1, 2},
		{101, 0, 0, 0, 0, 0},
		{101, 0, 100, 100, 1, 0},
		{101, 100, 1, 0, 99, 100},
		{101, 100, 100, 99, 0, 1},
		{101, 50, 51, 0, 100, 25},
	}
	for _, c := range cases {
		if got := impl.FAdd(c.p, c.a, c.b); got != c.sum {
			t.Errorf("FAdd(%d, %d, %d) = %d; want %d", c.p, c.a, c.b, got, c.sum)
		}
		if got := impl.FSub(c.p, c.a, c.b); got != c.difference {
			t.Errorf("FSub(%d, %d, %d) = %d; want %d", c.p, c.a, c.b, got, c.difference)
		}
		if got := impl.FMul(c.p, c.a, c.b); got != c.product {
			t.Errorf("FMul(%d, %d, %d) = %d; want %d", c.p, c.a, c.b, got, c.product)
		}
	}
}

// The definitions hold for all pairs of elements of all fields.
func TestFieldOperationsOfAllElements(t *testing.T) {
	for _, p := range primes {
		for a := range p {
			for b := range p {
				if got := impl.FAdd(p, a, b); got != (a+b)%p {
					t.Fatalf("FAdd(%d, %d, %d) = %d", p, a, b, got)
				}
				if got := impl.FSub(p, a, b); got != (a+p-b)%p {
					t.Fatalf("FSub(%d, %d, %d) = %d", p, a, b, got)
				}
				if got := impl.FMul(p, a, b); got != a*b%p {
					t.Fatalf("FMul(%d, %d, %d) = %d", p, a, b, got)
				}
			}
		}
	}
}

// The axioms about one or two elements hold in all fields.
func TestFieldAxioms(t *testing.T) {
	for _, p := range primes {
		for a := range p {
			if impl.FAdd(p, a, 0) != a || impl.FMul(p, a, 1) != a || impl.FMul(p, a, 0) != 0 {
				t.Fatalf("p = %d: 0 and 1 are not neutral for %d", p, a)
			}
			if minus := impl.FSub(p, 0, a); !impl.IsElement(p, minus) || impl.FAdd(p, a, minus) != 0 {
				t.Fatalf("p = %d: %d is not the negative of %d", p, minus, a)
			}
			if inverse := impl.FInv(p, a); a != 0 && (!impl.IsElement(p, inverse) || impl.FMul(p, a, inverse) != 1) {
				t.Fatalf("p = %d: %d is not the inverse of %d", p, inverse, a)
			}
			for b := range p {
				sum, difference, product := impl.FAdd(p, a, b), impl.FSub(p, a, b), impl.FMul(p, a, b)
				if !impl.IsElement(p, sum) || !impl.IsElement(p, difference) || !impl.IsElement(p, product) {
					t.Fatalf("p = %d: not an element for %d and %d: %d, %d, %d", p, a, b, sum, difference, product)
				}
				if sum != impl.FAdd(p, b, a) || product != impl.FMul(p, b, a) {
					t.Fatalf("p = %d: the order of %d and %d changes the result", p, a, b)
				}
				if impl.FAdd(p, difference, b) != a || impl.FSub(p, sum, b) != a {
					t.Fatalf("p = %d: sum and difference do not undo each other for %d and %d", p, a, b)
				}
				if product == 0 && a != 0 && b != 0 {
					t.Fatalf("p = %d: %d and %d divide 0", p, a, b)
				}
			}
		}
	}
}

// The axioms about three elements hold in all fields.
func TestFieldAxiomsOfThree(t *testing.T) {
	for _, p := range primes {
		// The operations are called once for each pair, since there are many triples.
		sums, products := make([][]int, p), make([][]int, p)
		for a := range p {
			for b := range p {
				sums[a] = append(sums[a], impl.FAdd(p, a, b))
				products[a] = append(products[a], impl.FMul(p, a, b))
			}
		}
		for a := range p {
			for b := range p {
				for c := range p {
					if sums[sums[a][b]][c] != sums[a][sums[b][c]] {
						t.Fatalf("p = %d: sums of %d, %d and %d differ", p, a, b, c)
					}
					if products[products[a][b]][c] != products[a][products[b][c]] {
						t.Fatalf("p = %d: products of %d, %d and %d differ", p, a, b, c)
					}
					if products[a][sums[b][c]] != sums[products[a][b]][products[a][c]] {
						t.Fatalf("p = %d: %d times the sum of %d and %d is not the sum of the products", p, a, b, c)
					}
				}
			}
		}
	}
}

func TestFieldOperationsInvalid(t *testing.T) {
	check := func(p, a, b int) {
		if sum, difference, product := impl.FAdd(p, a, b), impl.FSub(p, a, b), impl.FMul(p, a, b); sum != -1 || difference != -1 || product != -1 {
			t.Errorf("p = %d: FAdd, FSub and FMul of %d and %d are %d, %d and %d", p, a, b, sum, difference, product)
		}
	}
	for _, p := range notPrimes {
		for _, a := range []int{0, 1, 2, p - 1, p, -1, math.MaxInt64, math.MinInt64} {
			for _, b := range []int{0, 1, 2, p - 1, p, -1, math.MaxInt64, math.MinInt64} {
				check(p, a, b)
			}
		}
	}
	for _, p := range primes {
		for _, bad := range notElements(p) {
			for a := range p {
				check(p, bad, a)
				check(p, a, bad)
			}
			check(p, bad, bad)
			check(p, bad, -1)
			check(p, p, bad)
		}
	}
}

func TestFInv(t *testing.T) {
	cases := []struct{ p, a, want int }{
		{2, 1, 1}, {3, 1, 1}, {3, 2, 2}, {5, 2, 3}, {7, 3, 5}, {7, 5, 3}, {7, 6, 6},
		{97, 2, 49}, {97, 96, 96}, {101, 1, 1}, {101, 2, 51}, {101, 3, 34}, {101, 100, 100},
	}
	for _, c := range cases {
		if got := impl.FInv(c.p, c.a); got != c.want {
			t.Errorf("FInv(%d, %d) = %d; want %d", c.p, c.a, got, c.want)
		}
	}
	for _, p := range primes {
		for a := 1; a < p; a++ {
			if got := impl.FInv(p, a); got < 1 || got >= p || a*got%p != 1 {
				t.Errorf("FInv(%d, %d) = %d", p, a, got)
			}
		}
	}
}

func TestFInvInvalid(t *testing.T) {
	for _, p := range primes {
		if got := impl.FInv(p, 0); got != -1 {
			t.Errorf("FInv(%d, 0) = %d", p, got)
		}
		for _, a := range notElements(p) {
			if got := impl.FInv(p, a); got != -1 {
				t.Errorf("FInv(%d, %d) = %d", p, a, got)
			}
		}
	}
	for _, p := range notPrimes {
		for _, a := range []int{0, 1, 2, 3, p - 1, p, -1, math.MaxInt64, math.MinInt64} {
			if got := impl.FInv(p, a); got != -1 {
				t.Errorf("FInv(%d, %d) = %d", p, a, got)
			}
		}
	}
}

func TestFSum(t *testing.T) {
	cases := []struct {
		p    int
		list []int
		want int
	}{
		{2, nil, 0},
		{2, []int{1}, 1},
		{2, []int{1, 1}, 0},
		{2, []int{1, 0, 1, 1}, 1},
		{3, []int{2, 2, 2}, 0},
		{7, nil, 0},
		{7, []int{}, 0},
		{7, []int{0}, 0},
		{7, []int{6}, 6},
		{7, []int{5, 4, 6}, 1},
		{7, []int{6, 1}, 0},
		{7, []int{6, 6, 6, 6, 6, 6, 6}, 0},
		{97, []int{96, 96, 96}, 94},
		{101, []int{}, 0},
		{101, []int{100}, 100},
		{101, []int{100, 1}, 0},
		{101, []int{100, 100, 0, 3}, 1},
	}
	for _, c := range cases {
		if got := impl.FSum(c.p, c.list); got != c.want {
			t.Errorf("FSum(%d, %v) = %d; want %d", c.p, c.list, got, c.want)
		}
	}
}

func TestFSumOfAllFields(t *testing.T) {
	for _, p := range primes {
		if got := impl.FSum(p, nil); got != 0 {
			t.Errorf("FSum(%d, nil) = %d", p, got)
		}
		list, total := []int{}, 0
		for i := range 1000 {
			a := (i*i + 3*i + p/2) % p
			list, total = append(list, a), total+a
			if got := impl.FSum(p, list); got != total%p {
				t.Fatalf("FSum(%d, %v) = %d; want %d", p, list, got, total%p)
			}
		}
		slices.Reverse(list)
		if got := impl.FSum(p, list); got != total%p {
			t.Errorf("FSum(%d, ..) of the reversed list = %d; want %d", p, got, total%p)
		}
	}
}

func TestFSumInvalid(t *testing.T) {
	for _, p := range notPrimes {
		for _, list := range [][]int{nil, {}, {0}, {1, 0}, {0, 0, 0}, {-1}, {p - 1}} {
			if got := impl.FSum(p, list); got != -1 {
				t.Errorf("FSum(%d, %v) = %d", p, list, got)
			}
		}
	}
	for _, p := range primes {
		for _, bad := range notElements(p) {
			for place := range 5 {
				list := []int{0, p - 1, 1, 0, p - 1}
				list[place] = bad
				if got := impl.FSum(p, list); got != -1 {
					t.Errorf("FSum(%d, %v) = %d", p, list, got)
				}
				if got := impl.FSum(p, list[place:place+1]); got != -1 {
					t.Errorf("FSum(%d, %v) = %d", p, list[place:place+1], got)
				}
			}
		}
		// Two numbers that are no elements, although their sum is one.
		for _, list := range [][]int{{-1, 1}, {p, -1}, {p, p}, {-p, p}, {1, -1, 0}} {
			if got := impl.FSum(p, list); got != -1 {
				t.Errorf("FSum(%d, %v) = %d", p, list, got)
			}
		}
	}
}

func TestFSumLeavesTheList(t *testing.T) {
	whole := []int{9, 5, 4, 6, 3, -8}
	if got := impl.FSum(7, whole[1:4]); got != 1 {
		t.Error("unexpected sum", got)
	}
	impl.FSum(7, whole[1:6])
	impl.FSum(4, whole[1:4])
	if !slices.Equal(whole, []int{9, 5, 4, 6, 3, -8}) {
		t.Error("the list was changed", whole)
	}
}
