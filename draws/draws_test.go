package draws_test

import (
	"math"
	"math/big"
	"math/rand/v2"
	"slices"
	"testing"

	"steward/draws"
)

// with returns a Draws with the numbers.
func with(l ...uint64) *draws.Draws {
	d := draws.New()
	d.Push(l...)
	return d
}

// part returns the least number of which Below n is i.
func part(i, n int) uint64 {
	x := new(big.Int).Lsh(big.NewInt(int64(i)), 64)
	x.Add(x, big.NewInt(int64(n-1)))
	return x.Div(x, big.NewInt(int64(n))).Uint64()
}

// below is x times n divided by 2^64, with numbers of any size.
func below(x uint64, n int) int {
	p := new(big.Int).Mul(new(big.Int).SetUint64(x), big.NewInt(int64(n)))
	return int(p.Rsh(p, 64).Int64())
}

// counts checks how many numbers there are, and how often there was none.
func counts(t *testing.T, d *draws.Draws, left, short int) {
	t.Helper()
	if d.Left() != left || d.Short() != short {
		t.Errorf("%d left, %d short, want %d and %d", d.Left(), d.Short(), left, short)
	}
}

// gives checks the next numbers.
func gives(t *testing.T, d *draws.Draws, want ...uint64) {
	t.Helper()
	for i, x := range want {
		if got := d.Next(); got != x {
			t.Errorf("number %d: %d, want %d", i, got, x)
		}
	}
}

// P14.1: numbers come in the order in which they were passed, and then 0, which counts as short.
func TestNext(t *testing.T) {
	for _, d := range []*draws.Draws{draws.New(), {}} {
		counts(t, d, 0, 0)
		d.Push()
		counts(t, d, 0, 0)
		gives(t, d, 0, 0)
		counts(t, d, 0, 2)
		d.Push(5, 0, math.MaxUint64)
		d.Push([]uint64{7}...)
		counts(t, d, 4, 2)
		gives(t, d, 5, 0)
		counts(t, d, 2, 2)
		d.Push(5)
		gives(t, d, math.MaxUint64, 7, 5, 0)
		counts(t, d, 0, 3)
		d.Push(9)
		gives(t, d, 9, 0)
		counts(t, d, 0, 4)
	}
}

// Rule 5: Push leaves its list as it is, and a later change of the list is not seen.
func TestPushCopies(t *testing.T) {
	l := []uint64{1, 2, 3, 4}
	d := with(l[:2]...)
	d.Push(8, 9)
	if !slices.Equal(l, []uint64{1, 2, 3, 4}) {
		t.Errorf("%d", l)
	}
	l[0], l[1] = 6, 6
	gives(t, d, 1, 2, 8, 9)
}

// P14.1: what is done to a Draws is not seen in its copy, and the other way round.
func TestClone(t *testing.T) {
	for n := range 20 {
		d := draws.New()
		d.Next()
		for i := range n {
			d.Push(uint64(i), uint64(i))
			d.Next()
		}
		c := d.Clone()
		counts(t, c, n, 1)
		d.Push(100)
		c.Push(200)
		c.Push(201)
		counts(t, d, n+1, 1)
		counts(t, c, n+2, 1)
		for range n {
			if a, b := d.Next(), c.Next(); a != b {
				t.Errorf("%d and %d", a, b)
			}
		}
		gives(t, d, 100, 0)
		gives(t, c, 200)
		counts(t, d, 0, 2)
		counts(t, c, 1, 1)
		gives(t, c, 201, 0, 0)
		counts(t, d, 0, 2)
		counts(t, c, 0, 3)
	}
}

// P14.1: the parts of all numbers are mapped to the numbers below n.
func TestPick(t *testing.T) {
	for _, n := range []int{2, 3, 7, 10, 1000, 1 << 32, math.MaxInt} {
		for _, x := range []uint64{0, 1, part(1, n) - 1, part(1, n), 1<<63 - 1, 1 << 63, part(n-1, n) - 1, part(n-1, n), math.MaxUint64} {
			d := with(x, 1)
			if got := d.Pick(n); got != below(x, n) || got < 0 || got >= n {
				t.Errorf("Pick(%d) of %d: %d, want %d", n, x, got, below(x, n))
			}
			counts(t, d, 1, 0)
		}
	}
}

// P14.1: a number below 1 or less is 0, and no number is taken.
func TestNothingToPick(t *testing.T) {
	for _, n := range []int{1, 0, -1, math.MinInt} {
		for _, d := range []*draws.Draws{draws.New(), with(math.MaxUint64)} {
			left := d.Left()
			if got := d.Pick(n); got != 0 {
				t.Errorf("Pick(%d) = %d", n, got)
			}
			if a, b := d.Two(n); a != 0 || b != 0 {
				t.Errorf("Two(%d) = %d, %d", n, a, b)
			}
			counts(t, d, left, 0)
		}
	}
}

// P14.1: without a number, that of 0 is picked, and each time counts as short.
func TestPickWithoutNumbers(t *testing.T) {
	d := with(1 << 63)
	if a, b := d.Pick(10), d.Pick(10); a != 5 || b != 0 {
		t.Errorf("%d, %d", a, b)
	}
	counts(t, d, 0, 1)
	if a, b := d.Two(9); a != 0 || b != 1 {
		t.Errorf("%d, %d", a, b)
	}
	counts(t, d, 0, 3)
	d.Push(math.MaxUint64)
	if a, b := d.Two(9); a != 8 || b != 0 {
		t.Errorf("%d, %d", a, b)
	}
	counts(t, d, 0, 4)
}

// P14.1, P14.2: each pair of different numbers comes of exactly one pair of parts.
func TestTwo(t *testing.T) {
	for n := 2; n < 12; n++ {
		for i := range n {
			for j := range n - 1 {
				want := j
				if j >= i {
					want = j + 1
				}
				d := with(part(i, n), part(j, n-1), 1)
				if a, b := d.Two(n); a != i || b != want {
					t.Errorf("Two(%d) of the parts %d and %d: %d, %d", n, i, j, a, b)
				}
				counts(t, d, 1, 0)
			}
		}
	}
}

// P14.2: different, and less than n, for any numbers.
func TestTwoOfAnyNumbers(t *testing.T) {
	r := rand.New(rand.NewPCG(14, 1))
	for _, n := range []int{2, 3, 4, 100, 1 << 40, math.MaxInt} {
		for range 1000 {
			x, y := r.Uint64(), r.Uint64()
			d := with(x, y)
			a, b := d.Two(n)
			if a < 0 || b < 0 || a >= n || b >= n || a == b || a != below(x, n) {
				t.Errorf("Two(%d) of %d, %d: %d, %d", n, x, y, a, b)
			}
			counts(t, d, 0, 0)
		}
	}
}

// P14.1: a number is taken for the second one, even if only one remains, and the greatest numbers do not exceed n.
func TestTwoAtTheEnds(t *testing.T) {
	for _, x := range []uint64{0, 1<<63 - 1, 1 << 63, math.MaxUint64} {
		for _, y := range []uint64{0, math.MaxUint64} {
			d := with(x, y, 1)
			if a, b := d.Two(2); a != int(x>>63) || b != 1-a {
				t.Errorf("Two(2) of %d, %d: %d, %d", x, y, a, b)
			}
			counts(t, d, 1, 0)
		}
	}
	if a, b := with(math.MaxUint64, math.MaxUint64).Two(math.MaxInt); a != math.MaxInt-1 || b != math.MaxInt-2 {
		t.Errorf("%d, %d", a, b)
	}
	if a, b := with(0, math.MaxUint64).Two(math.MaxInt); a != 0 || b != math.MaxInt-1 {
		t.Errorf("%d, %d", a, b)
	}
}

// shuffled exchanges the elements from the last one down, each with the one at the index that its number gives.
func shuffled(n int, numbers ...uint64) []int {
	l := make([]int, n)
	for i := range l {
		l[i] = i
	}
	for i := n - 1; i >= 1; i-- {
		x := uint64(0)
		if len(numbers) > 0 {
			x, numbers = numbers[0], numbers[1:]
		}
		j := below(x, i+1)
		kept := l[i]
		l[i] = l[j]
		l[j] = kept
	}
	return l
}

// P14.1, P14.2: each number once, and one number taken for each element but the first one.
func TestShuffle(t *testing.T) {
	r := rand.New(rand.NewPCG(14, 2))
	for _, n := range []int{0, 1, 2, 3, 4, 5, 10, 100, 4095, 4096} {
		for _, missing := range []int{0, 1, n / 2, n} {
			numbers := make([]uint64, max(n-1-missing, 0))
			for i := range numbers {
				numbers[i] = r.Uint64()
			}
			d := with(numbers...)
			got := d.Shuffle(n)
			if !slices.Equal(got, shuffled(n, numbers...)) {
				t.Errorf("Shuffle(%d) with %d numbers: %v", n, len(numbers), got)
			}
			counts(t, d, 0, max(n-1, 0)-len(numbers))
			slices.Sort(got)
			if !slices.Equal(got, shuffled(n, slices.Repeat([]uint64{math.MaxUint64}, n)...)) {
				t.Errorf("Shuffle(%d) has the numbers %v", n, got)
			}
		}
	}
}

// P14.1: each permutation comes of exactly one list of parts.
func TestShuffleOfAllParts(t *testing.T) {
	found := map[[4]int]int{}
	for i := range 4 {
		for j := range 3 {
			for k := range 2 {
				d := with(part(i, 4), part(j, 3), part(k, 2), 1)
				found[[4]int(d.Shuffle(4))]++
				counts(t, d, 1, 0)
			}
		}
	}
	if len(found) != 24 {
		t.Errorf("%d permutations: %v", len(found), found)
	}
}

// P14.1: permutations written out.
func TestShuffleOfSomeNumbers(t *testing.T) {
	const top = math.MaxUint64
	for i, x := range []struct {
		numbers []uint64
		want    []int
	}{
		{nil, []int{1, 2, 3, 0}}, {[]uint64{top, top, top}, []int{0, 1, 2, 3}}, {[]uint64{top}, []int{1, 2, 0, 3}},
		{[]uint64{0, top, top}, []int{3, 1, 2, 0}}, {[]uint64{1 << 63, 1 << 63, 1 << 63}, []int{0, 3, 1, 2}},
	} {
		if got := with(x.numbers...).Shuffle(4); !slices.Equal(got, x.want) {
			t.Errorf("%d: %v, want %v", i, got, x.want)
		}
	}
}

// P14.1: no elements, and no more than 4096.
func TestShuffleAtItsLimits(t *testing.T) {
	for _, n := range []int{1, 0, -1, math.MinInt} {
		d := with(5)
		if got := d.Shuffle(n); len(got) != max(n, 0) {
			t.Errorf("Shuffle(%d) = %v", n, got)
		}
		counts(t, d, 1, 0)
	}
	for _, n := range []int{4097, 1 << 40, math.MaxInt} {
		d := draws.New()
		if got := d.Shuffle(n); !slices.Equal(got, shuffled(4096)) {
			t.Errorf("Shuffle(%d) has %d elements", n, len(got))
		}
		counts(t, d, 0, 4095)
	}
}

// Rule 5: a permutation that is changed does not change the next one.
func TestShuffleReturnsNewMemory(t *testing.T) {
	d := draws.New()
	clear(d.Shuffle(5))
	if got := d.Shuffle(5); !slices.Equal(got, shuffled(5)) {
		t.Errorf("%v", got)
	}
}
