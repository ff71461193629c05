package prime_test

import (
	"math"
	"math/big"
	"math/rand/v2"
	"slices"
	"testing"

	"steward/api"
	"steward/prime"
)

// beyond is how far the sieve goes past MaxTable.
const beyond = 1 << 12

// extremes are numbers far outside of all limits.
var extremes = []int{math.MinInt, math.MinInt + 1, math.MinInt32, -1 << 20, math.MaxInt32, 1 << 40, math.MaxInt - 1, math.MaxInt}

// sieve returns the least prime divisor of each number, found by crossing out multiples.
func sieve() []int {
	least := make([]int, api.MaxTable+beyond)
	for p := 2; p < len(least); p++ {
		if least[p] != 0 {
			continue
		}
		for n := p; n < len(least); n += p {
			if least[n] == 0 {
				least[n] = p
			}
		}
	}
	return least
}

// some returns all numbers near the ends of the table, and others between.
func some() []int {
	var l []int
	for n := -100; n < 1<<14; n++ {
		l = append(l, n)
	}
	for n := api.MaxTable - 1<<12; n < api.MaxTable+beyond; n++ {
		l = append(l, n)
	}
	rng := rand.New(rand.NewPCG(17, 1))
	for range 20000 {
		l = append(l, rng.IntN(api.MaxTable))
	}
	return append(l, extremes...)
}

// P17.1: Is of every number of the table and of those beyond it.
func TestIs(t *testing.T) {
	for n, p := range sieve() {
		if want := n > 1 && p == n && n <= api.MaxTable; prime.Is(n) != want {
			t.Fatalf("Is(%d) is %t", n, !want)
		}
	}
	for _, n := range append(extremes, -7, -3, -2, -1, 0, 1, 1048583, 2147483647, 2305843009213693951) {
		if prime.Is(n) {
			t.Errorf("Is(%d) is true", n)
		}
	}
	for _, n := range []int{2, 3, 101, 65537, 1048573} {
		if !prime.Is(n) {
			t.Errorf("Is(%d) is false", n)
		}
	}
}

// P17.1: Next and Ahead of numbers near all ends, with the primes of the sieve.
func TestNextAhead(t *testing.T) {
	var primes []int
	for n, p := range sieve() {
		if n > 1 && p == n && n <= api.MaxTable {
			primes = append(primes, n)
		}
	}
	for _, n := range some() {
		at, _ := slices.BinarySearch(primes, n)
		next, ahead := 0, 0
		if at < len(primes) {
			next = primes[at]
		}
		if at > 0 {
			ahead = primes[at-1]
		}
		if got := prime.Next(n); got != next {
			t.Fatalf("Next(%d) is %d, want %d", n, got, next)
		}
		if got := prime.Ahead(n); got != ahead {
			t.Fatalf("Ahead(%d) is %d, want %d", n, got, ahead)
		}
	}
}

// P17.1: Next and Ahead as written out: the example of the document, and the ends.
func TestNextAheadExamples(t *testing.T) {
	for _, x := range [][2]int{
		{100, 101}, {101, 101}, {102, 103}, {math.MinInt, 2}, {-1, 2}, {0, 2}, {1, 2}, {2, 2}, {3, 3}, {4, 5}, {8, 11}, {65536, 65537},
		{1048572, 1048573}, {1048573, 1048573}, {1048574, 0}, {1048576, 0}, {1048577, 0}, {1048583, 0}, {math.MaxInt, 0},
	} {
		if got := prime.Next(x[0]); got != x[1] {
			t.Errorf("Next(%d) is %d, want %d", x[0], got, x[1])
		}
	}
	for _, x := range [][2]int{
		{math.MinInt, 0}, {-1, 0}, {0, 0}, {1, 0}, {2, 0}, {3, 2}, {4, 3}, {5, 3}, {6, 5}, {101, 97}, {102, 101}, {1048573, 1048571},
		{1048574, 1048573}, {1048576, 1048573}, {1048577, 1048573}, {1048578, 1048573}, {1048584, 1048573}, {math.MaxInt, 1048573},
	} {
		if got := prime.Ahead(x[0]); got != x[1] {
			t.Errorf("Ahead(%d) is %d, want %d", x[0], got, x[1])
		}
	}
}

// P17.1: Gcd of small numbers, by trying all divisors.
func TestGcdSmall(t *testing.T) {
	for a := -3; a <= 60; a++ {
		for b := -3; b <= 60; b++ {
			want := max(a, b, 0)
			for d := 1; d <= min(a, b); d++ {
				if a%d == 0 && b%d == 0 {
					want = d
				}
			}
			if a > 0 && b > 0 && want > min(a, b) {
				t.Fatalf("no divisor of %d and %d was found", a, b)
			}
			if got := prime.Gcd(a, b); got != want {
				t.Errorf("Gcd(%d, %d) is %d, want %d", a, b, got, want)
			}
		}
	}
}

// P17.1: Gcd of numbers of any size, by the library's.
func TestGcdGreat(t *testing.T) {
	rng := rand.New(rand.NewPCG(17, 2))
	l := append([]int{0, 1, 2, 6, 1 << 20, 1 << 62, 3 << 60}, extremes...)
	for range 200 {
		l = append(l, rng.Int()>>rng.IntN(63)*(1-2*rng.IntN(2)))
	}
	for _, a := range l {
		for _, b := range l {
			want := new(big.Int).GCD(nil, nil, big.NewInt(int64(max(a, 0))), big.NewInt(int64(max(b, 0))))
			if got := prime.Gcd(a, b); int64(got) != want.Int64() {
				t.Fatalf("Gcd(%d, %d) is %d, want %d", a, b, got, want)
			}
		}
	}
}

// P17.1: Factors of every number that has any are the least divisors, one after the other.
func TestFactors(t *testing.T) {
	least := sieve()
	for n := 2; n <= api.MaxTable; n++ {
		if n > 1<<16 && n < api.MaxTable-1<<12 && n%7 != 0 {
			continue
		}
		var want []int
		for rest := n; rest > 1; rest /= least[rest] {
			want = append(want, least[rest])
		}
		if got := prime.Factors(n); !slices.Equal(got, want) {
			t.Fatalf("Factors(%d) is %d, want %d", n, got, want)
		}
	}
}

// P17.1: Factors of numbers that are written out, and of those that have none.
func TestFactorsExamples(t *testing.T) {
	for _, x := range []struct {
		n    int
		want []int
	}{
		{2, []int{2}}, {4, []int{2, 2}}, {360, []int{2, 2, 2, 3, 3, 5}}, {1048573, []int{1048573}}, {1046529, []int{3, 3, 11, 11, 31, 31}},
		{1 << 20, slices.Repeat([]int{2}, 20)}, {1048575, []int{3, 5, 5, 11, 31, 41}},
	} {
		if got := prime.Factors(x.n); !slices.Equal(got, x.want) {
			t.Errorf("Factors(%d) is %d, want %d", x.n, got, x.want)
		}
	}
	for _, n := range append(extremes, -6, -2, -1, 0, 1, 1<<20+1, 1<<20+2) {
		if got := prime.Factors(n); len(got) != 0 {
			t.Errorf("Factors(%d) is %d", n, got)
		}
	}
}

// place returns first plus i times step modulo m, without a limit of size.
func place(m, first, step, i int) int {
	x := new(big.Int).Mul(big.NewInt(int64(i)), big.NewInt(int64(step)))
	x.Add(x, big.NewInt(int64(first)))
	return int(x.Mod(x, big.NewInt(int64(m))).Int64()) // Mod is not negative
}

// P17.1: Row for any numbers, small and far outside.
func TestRow(t *testing.T) {
	numbers := append([]int{-100, -7, -3, -2, -1, 0, 1, 2, 3, 5, 6, 7, 11, 100, api.MaxTable}, extremes...)
	for m := 1; m <= 13; m++ {
		for _, first := range numbers {
			for _, step := range numbers {
				row := prime.Row(m, first, step)
				if len(row) != m {
					t.Fatalf("Row(%d, %d, %d) has %d places", m, first, step, len(row))
				}
				for i, got := range row {
					if want := place(m, first, step, i); got != want {
						t.Fatalf("place %d of Row(%d, %d, %d) is %d, want %d", i, m, first, step, got, want)
					}
				}
			}
		}
	}
}

// P17.1: Row as written out: the example of the document, and others.
func TestRowExamples(t *testing.T) {
	for _, x := range []struct {
		m, first, step int
		want           []int
	}{
		{5, 3, 2, []int{3, 0, 2, 4, 1}}, {4, -1, 2, []int{3, 1, 3, 1}}, {5, 0, -1, []int{0, 4, 3, 2, 1}}, {3, 7, 0, []int{1, 1, 1}},
		{1, 9, 9, []int{0}}, {2, math.MaxInt, math.MinInt, []int{1, 1}}, {4, 8, 9, []int{0, 1, 2, 3}},
		{0, 1, 1, nil}, {-1, 1, 1, nil}, {math.MinInt, 0, 0, nil},
	} {
		if got := prime.Row(x.m, x.first, x.step); !slices.Equal(got, x.want) {
			t.Errorf("Row(%d, %d, %d) is %d, want %d", x.m, x.first, x.step, got, x.want)
		}
	}
}

// P17.1: a Row has at most MaxTable places, and its modulo is limited in the same way.
func TestRowLimit(t *testing.T) {
	for _, m := range []int{api.MaxTable - 1, api.MaxTable, api.MaxTable + 1, math.MaxInt} {
		for _, x := range [][2]int{{5, 3}, {-1, api.MaxTable + 1}, {math.MaxInt, math.MaxInt}, {math.MinInt, math.MinInt + 1}} {
			places := min(m, api.MaxTable)
			row := prime.Row(m, x[0], x[1])
			if len(row) != places {
				t.Fatalf("Row(%d, %d, %d) has %d places", m, x[0], x[1], len(row))
			}
			for i := 0; i < places; i += 997 {
				if want := place(places, x[0], x[1], i); row[i] != want {
					t.Fatalf("place %d of Row(%d, %d, %d) is %d, want %d", i, m, x[0], x[1], row[i], want)
				}
			}
		}
	}
}

// once reports whether each of the places is in the row exactly once.
func once(row []int) bool {
	l := slices.Clone(row)
	slices.Sort(l)
	for i, p := range l {
		if p != i {
			return false
		}
	}
	return true
}

// coprime reports whether no number greater than 1 divides both.
func coprime(m, step int) bool {
	for d := 2; d <= m; d++ {
		if m%d == 0 && step%d == 0 {
			return false
		}
	}
	return true
}

// P17.2: all steps of small rows, and the prime rows among them.
func TestRowComplete(t *testing.T) {
	for m := 1; m <= 50; m++ {
		for step := -2 * m; step <= 2*m; step++ {
			want := coprime(m, step)
			if prime.Is(m) && want != (step%m != 0) {
				t.Fatalf("%d and %d: coprime is %t", m, step, want)
			}
			if got := once(prime.Row(m, 3*step+1, step)); got != want {
				t.Errorf("each place is once in Row(%d, %d, %d): %t, want %t", m, 3*step+1, step, got, want)
			}
		}
	}
	if len(prime.Row(0, 1, 2)) != 0 || !once(prime.Row(1, 5, 0)) {
		t.Error("rows of less than 2 places")
	}
}

// P17.2: great rows.
func TestRowCompleteGreat(t *testing.T) {
	for _, x := range []struct {
		m, step int
		want    bool
	}{
		{1048573, 1, true}, {1048573, 1048572, true}, {1048573, 524288, true}, {1048573, 1048573, false}, {1048573, 0, false}, {1048573, 2097146, false},
		{1048576, 3, true}, {1048576, 1048575, true}, {1048576, 2, false}, {65537, 65536, true}, {65535, 17, false}, {65535, 16, true},
	} {
		if got := once(prime.Row(x.m, x.step, x.step)); got != x.want {
			t.Errorf("each place is once in Row(%d, .., %d): %t", x.m, x.step, got)
		}
	}
}

// P17.1: Inverse of small numbers, by trying all.
func TestInverseSmall(t *testing.T) {
	for m := -3; m <= 60; m++ {
		for a := -130; a <= 130; a++ {
			want := 0
			for x := 1; x < m; x++ {
				if ((a*x-1)%m+m)%m == 0 {
					want = x
				}
			}
			if got := prime.Inverse(a, m); got != want {
				t.Errorf("Inverse(%d, %d) is %d, want %d", a, m, got, want)
			}
		}
	}
}

// P17.1: Inverse modulo great numbers, of numbers of any size, by the library's.
func TestInverseGreat(t *testing.T) {
	rng := rand.New(rand.NewPCG(17, 3))
	moduli := []int{api.MaxTable, api.MaxTable - 1, 1048573, 65537, 65536, 720720}
	numbers := append([]int{0, 1, 2, 3, -1, api.MaxTable - 1, api.MaxTable + 1}, extremes...)
	for range 300 {
		moduli = append(moduli, 2+rng.IntN(api.MaxTable-1))
		numbers = append(numbers, int(rng.Uint64()), rng.IntN(api.MaxTable))
	}
	for _, m := range moduli {
		for _, a := range numbers {
			want := 0
			if x := new(big.Int).ModInverse(big.NewInt(int64(a)), big.NewInt(int64(m))); x != nil {
				want = int(x.Int64())
			}
			if got := prime.Inverse(a, m); got != want {
				t.Fatalf("Inverse(%d, %d) is %d, want %d", a, m, got, want)
			}
		}
	}
}

// P17.1: Inverse as written out, and moduli outside of the limits.
func TestInverseExamples(t *testing.T) {
	for _, x := range [][3]int{{3, 7, 5}, {1, 2, 1}, {2, 4, 0}, {-1, 5, 4}, {6, 5, 1}, {0, 5, 0}, {5, 5, 0}, {3, 1 << 20, 699051}} {
		if got := prime.Inverse(x[0], x[1]); got != x[2] {
			t.Errorf("Inverse(%d, %d) is %d, want %d", x[0], x[1], got, x[2])
		}
	}
	for _, m := range append(extremes, -5, -1, 0, 1, api.MaxTable+1, 1048583) {
		for _, a := range []int{-1, 0, 1, 3, m} {
			if got := prime.Inverse(a, m); got != 0 {
				t.Errorf("Inverse(%d, %d) is %d", a, m, got)
			}
		}
	}
}

// Rule 5: results are new memory.
func TestMemory(t *testing.T) {
	for _, f := range []func() []int{
		func() []int { return prime.Factors(360) },
		func() []int { return prime.Row(5, 3, 2) },
	} {
		one := f()
		want := slices.Clone(one)
		for i := range one[:cap(one)] {
			one[:cap(one)][i] = -1
		}
		if got := f(); !slices.Equal(got, want) {
			t.Errorf("%d after a change of the previous result, want %d", got, want)
		}
	}
}
