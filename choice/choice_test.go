package choice_test

import (
	"math"
	"math/big"
	"math/rand/v2"
	"slices"
	"testing"

	"steward/choice"
	"steward/draws"
	"steward/score"
)

const huge = math.MaxFloat64

func negativeZero() float64 { return math.Copysign(0, -1) }

// of returns a candidate of weight 1 without requests, whose load is its time.
func of(time float64) choice.Candidate {
	return choice.Candidate{Weight: 1, Time: time}
}

// loaded returns a candidate without a time.
func loaded(weight, busy int) choice.Candidate {
	return choice.Candidate{Weight: weight, Busy: busy}
}

// ascending returns groups of candidates with equal loads, in the order in which they come.
func ascending() [][]choice.Candidate {
	nan, inf := math.NaN(), math.Inf(1)
	return [][]choice.Candidate{
		{of(0), of(negativeZero()), of(-3), of(-inf), {Weight: 7, Busy: 9}, {Weight: 7, Busy: 9, Time: -1}},
		{of(math.SmallestNonzeroFloat64), {Weight: 1, Busy: -5, Time: math.SmallestNonzeroFloat64}},
		{of(0.5), {Weight: 2, Busy: 0, Time: 1}, {Weight: 65534, Busy: 32766, Time: 1}},
		{{Weight: 65535, Busy: 32767, Time: 1}},
		{of(1), {Weight: 65535, Busy: 65534, Time: 1}, {Weight: 3, Busy: 2, Time: 1}},
		{of(3), {Weight: 1, Busy: 2, Time: 1}, {Weight: 2, Busy: 2, Time: 2}},
		{of(3.5)},
		{{Weight: 1, Busy: 1 << 40, Time: 1}, {Weight: 1, Busy: math.MaxInt, Time: 1}},
		{of(huge), {Weight: 1, Busy: 1, Time: huge / 2}},
		{of(inf), {Weight: 65535, Busy: 1, Time: huge}, {}, {Weight: 0, Time: 1}, {Weight: -1, Time: nan}, {Weight: math.MinInt}, {Weight: 9, Time: inf}},
		{of(nan), {Weight: 65535, Time: nan}, {Weight: 1, Busy: 1 << 50, Time: math.Copysign(nan, -1)}},
	}
}

// part returns the least number of which Below n is i.
func part(i, n int) uint64 {
	x := new(big.Int).Lsh(big.NewInt(int64(i)), 64)
	x.Add(x, big.NewInt(int64(n-1)))
	return x.Div(x, big.NewInt(int64(n))).Uint64()
}

// drawing returns a Draws whose Two of n is first and second, and which has one number more.
func drawing(first, second, n int) *draws.Draws {
	if second > first {
		second--
	}
	d := draws.New()
	d.Push(part(first, n), part(second, n-1), 1)
	return d
}

// some returns n candidates of all kinds, with ordinary and other numbers.
func some(random *rand.Rand, n int) []choice.Candidate {
	special := slices.Concat(ascending()...)
	l := make([]choice.Candidate, n)
	for i := range l {
		switch random.IntN(3) {
		case 0:
			l[i] = special[random.IntN(len(special))]
		case 1:
			l[i] = choice.Candidate{Weight: random.IntN(4), Busy: random.IntN(4), Time: float64(random.IntN(3))}
		default:
			l[i] = choice.Candidate{Weight: random.IntN(65535) + 1, Busy: random.IntN(65536), Time: math.Float64frombits(random.Uint64())}
		}
	}
	return l
}

// loadOf is the load of layer 13.
func loadOf(c choice.Candidate) float64 {
	return score.Load(c.Busy, c.Weight, c.Time)
}

// P16.1: the example of the document, and others: none, one, the first of equal ones, and weights and numbers of requests at their limits.
func TestLeast(t *testing.T) {
	for i, x := range []struct {
		want int
		l    []choice.Candidate
	}{
		{1, []choice.Candidate{loaded(1, 1), loaded(3, 2)}},
		{0, []choice.Candidate{loaded(3, 2), loaded(1, 1)}},
		{-1, nil}, {-1, []choice.Candidate{}},
		{0, []choice.Candidate{loaded(1, 0)}}, {0, []choice.Candidate{loaded(0, 0)}}, {0, []choice.Candidate{loaded(-9, 9)}},
		{0, []choice.Candidate{loaded(1, 0), loaded(1, 0), loaded(1, 0)}},
		{0, []choice.Candidate{loaded(2, 0), loaded(4, 1), loaded(6, 2)}},
		{1, []choice.Candidate{loaded(1, 0), loaded(4, 1), loaded(2, 0)}},
		{2, []choice.Candidate{loaded(3, 1), loaded(3, 1), loaded(3, 0), loaded(6, 1)}},
		{1, []choice.Candidate{loaded(0, 0), loaded(1, 1000)}},
		{0, []choice.Candidate{loaded(0, 5), loaded(-1, 0), loaded(math.MinInt, -3)}},
		{0, []choice.Candidate{loaded(1, -7), loaded(1, 0)}}, {0, []choice.Candidate{loaded(1, 0), loaded(1, math.MinInt)}},
		{1, []choice.Candidate{loaded(1, -7), loaded(2, 0)}},
		{0, []choice.Candidate{loaded(1, 1<<40), loaded(1, math.MaxInt)}}, {0, []choice.Candidate{loaded(1, math.MaxInt), loaded(1, 1<<40)}},
		{1, []choice.Candidate{loaded(1, 1<<40), loaded(1, 1<<40-1)}},
		{1, []choice.Candidate{loaded(65534, 0), loaded(65535, 0)}},
	} {
		if got := choice.Least(x.l...); got != x.want {
			t.Errorf("%d: %d, want %d", i, got, x.want)
		}
	}
}

// P16.1: the time of a candidate does not count for Least, and its name neither.
func TestLeastWithoutTimes(t *testing.T) {
	times := []float64{0, 1, -1, 1e300, math.Inf(1), math.Inf(-1), math.NaN()}
	for _, a := range times {
		for _, b := range times {
			light, heavy := choice.Candidate{Name: "z", Weight: 3, Busy: 2, Time: a}, choice.Candidate{Name: "a", Weight: 1, Busy: 1, Time: b}
			if got := choice.Least(heavy, light, heavy); got != 1 {
				t.Errorf("%v and %v: %d", a, b, got)
			}
			if got := choice.Least(light, heavy, light); got != 0 {
				t.Errorf("%v and %v: %d", a, b, got)
			}
		}
	}
}

// compareFractions compares the exact loads of candidates whose weights are at least 1.
func compareFractions(a, b choice.Candidate) int {
	return big.NewRat(int64(a.Busy)+1, int64(a.Weight)).Cmp(big.NewRat(int64(b.Busy)+1, int64(b.Weight)))
}

// P16.2: as exact fractions, and the first one of equal ones.
func TestLeastIsExact(t *testing.T) {
	random := rand.New(rand.NewPCG(16, 1))
	for range 3000 {
		l := make([]choice.Candidate, random.IntN(9)+1)
		most := []int{3, 100, 65535}[random.IntN(3)]
		for i := range l {
			l[i] = loaded(random.IntN(most)+1, random.IntN(most+1))
		}
		got := choice.Least(l...)
		for i, c := range l {
			if x := compareFractions(c, l[got]); x < 0 || x == 0 && i < got {
				t.Fatalf("Least(%v) = %d, not %d", l, got, i)
			}
		}
	}
}

// P16.2: the fractions that are nearest to each other, at the ends of what weights and requests may be.
func TestLeastOfNearFractions(t *testing.T) {
	var l []choice.Candidate
	for i := range 12 {
		for j := range 12 {
			l = append(l, loaded(65535-i, 65535-j), loaded(65535-i, 65534-i-j), loaded(65535-i, 32767-j), loaded(65535-i, j), loaded(i+1, 65535-j))
		}
	}
	for _, a := range l {
		for _, b := range l {
			want := 0
			if compareFractions(b, a) < 0 {
				want = 1
			}
			if got := choice.Least(a, b); got != want {
				t.Errorf("Least(%v, %v) = %d, want %d", a, b, got, want)
			}
		}
	}
}

// P16.1, P16.3: each pair of candidates of all loads, as the only two and among others.
func TestTwo(t *testing.T) {
	for i, l := range ascending() {
		for j, m := range ascending() {
			for _, a := range l {
				for _, b := range m {
					all := []choice.Candidate{of(0), a, of(math.NaN()), b, of(0)}
					want := 1
					if j < i {
						want = 3
					}
					d := drawing(1, 3, 5)
					if got := choice.Two(d, all...); got != want || d.Left() != 1 || d.Short() != 0 {
						t.Errorf("Two of %v, %v: %d, want %d", a, b, got, want)
					}
					d = drawing(0, 1, 2)
					if got := choice.Two(d, a, b); got != want/2 || d.Left() != 1 || d.Short() != 0 {
						t.Errorf("Two of only %v, %v: %d, want %d", a, b, got, want/2)
					}
				}
			}
		}
	}
}

// P16.1: the two that are drawn are compared, in the order in which they are drawn.
func TestTwoOfThoseDrawn(t *testing.T) {
	for n := 2; n < 8; n++ {
		equal, falling := make([]choice.Candidate, n), make([]choice.Candidate, n)
		for i := range n {
			equal[i], falling[i] = of(2), of(float64(n-i))
		}
		for first := range n {
			for second := range n {
				if first == second {
					continue
				}
				if got := choice.Two(drawing(first, second, n), equal...); got != first {
					t.Errorf("%d, %d of %d equal ones: %d", first, second, n, got)
				}
				if got := choice.Two(drawing(first, second, n), falling...); got != max(first, second) {
					t.Errorf("%d, %d of %d: %d", first, second, n, got)
				}
			}
		}
	}
}

// P16.1: for none and for one, nothing is drawn.
func TestTwoOfFewerThanTwo(t *testing.T) {
	for _, left := range []int{0, 3} {
		d := draws.New()
		d.Push(slices.Repeat([]uint64{math.MaxUint64}, left)...)
		if got := choice.Two(d); got != -1 {
			t.Errorf("none: %d", got)
		}
		if got := choice.Two(d, []choice.Candidate{}...); got != -1 {
			t.Errorf("none: %d", got)
		}
		for _, l := range ascending() {
			for _, c := range l {
				if got := choice.Two(d, c); got != 0 {
					t.Errorf("%v alone: %d", c, got)
				}
			}
		}
		if d.Left() != left || d.Short() != 0 {
			t.Errorf("%d left, %d short", d.Left(), d.Short())
		}
	}
}

// P16.1: without numbers, those of 0 are drawn, and count as short.
func TestTwoWithoutNumbers(t *testing.T) {
	for _, d := range []*draws.Draws{draws.New(), {}} {
		if got := choice.Two(d, of(2), of(1), of(0)); got != 1 || d.Short() != 2 {
			t.Errorf("%d, %d short", got, d.Short())
		}
		d.Push(math.MaxUint64)
		if got := choice.Two(d, of(2), of(1), of(3)); got != 0 || d.Short() != 3 {
			t.Errorf("%d, %d short", got, d.Short())
		}
	}
}

// P16.3: for any candidates and numbers, the one that is not selected does not come first.
func TestTwoOfAnyCandidates(t *testing.T) {
	random := rand.New(rand.NewPCG(16, 3))
	for range 3000 {
		l := some(random, random.IntN(9)+2)
		d := draws.New()
		d.Push(random.Uint64(), random.Uint64())
		first, second := d.Clone().Two(len(l))
		got, other := choice.Two(d, l...), first
		if got == first {
			other = second
		}
		if got != first && got != second {
			t.Fatalf("%d of %d and %d", got, first, second)
		}
		if x := score.Compare(loadOf(l[other]), loadOf(l[got])); x < 0 || x == 0 && got != first {
			t.Errorf("Two of %v, %v: %d", l[first], l[second], got)
		}
	}
}

// P16.1: all candidates in ascending order, in descending order, and each of them twice.
func TestRank(t *testing.T) {
	groups := ascending()
	all := slices.Concat(groups...)
	if got := choice.Rank(all...); !slices.IsSorted(got) || len(got) != len(all) {
		t.Errorf("ascending: %v", got)
	}
	var falling []choice.Candidate
	var want []int
	for _, l := range slices.Backward(groups) {
		var indices []int
		for _, c := range l {
			indices = append(indices, len(falling))
			falling = append(falling, c)
		}
		want = append(indices, want...)
	}
	if got := choice.Rank(falling...); !slices.Equal(got, want) {
		t.Errorf("descending: %v, want %v", got, want)
	}
	var twice []int
	place := 0
	for _, l := range groups {
		for _, start := range []int{place, place + len(all)} {
			for i := range l {
				twice = append(twice, start+i)
			}
		}
		place += len(l)
	}
	if got := choice.Rank(append(slices.Clone(all), all...)...); !slices.Equal(got, twice) {
		t.Errorf("twice: %v, want %v", got, twice)
	}
}

// P16.1: lists written out, with none, one, equal ones, NaN and infinities.
func TestRankOfSomeLists(t *testing.T) {
	nan, inf := math.NaN(), math.Inf(1)
	for i, x := range []struct {
		times []float64
		want  []int
	}{
		{nil, nil}, {[]float64{nan}, []int{0}}, {[]float64{1, 1, 1}, []int{0, 1, 2}}, {[]float64{3, 1, 2}, []int{1, 2, 0}},
		{[]float64{nan, inf, 1}, []int{2, 1, 0}}, {[]float64{nan, 2, nan, 1}, []int{3, 1, 0, 2}}, {[]float64{inf, nan, inf}, []int{0, 2, 1}},
		{[]float64{0, -1, negativeZero(), -inf}, []int{0, 1, 2, 3}}, {[]float64{1, -5, 0, nan, -6}, []int{1, 2, 4, 0, 3}},
	} {
		var l []choice.Candidate
		for _, time := range x.times {
			l = append(l, of(time))
		}
		if got := choice.Rank(l...); !slices.Equal(got, x.want) {
			t.Errorf("%d: %v, want %v", i, got, x.want)
		}
	}
	l := []choice.Candidate{{Weight: 1, Busy: 1, Time: 5}, {Weight: 3, Busy: 2, Time: nan}, {Weight: 2, Busy: 1, Time: inf}, {Time: nan}, {Weight: 4, Busy: 7, Time: 4.5}}
	if got := choice.Rank(l...); !slices.Equal(got, []int{4, 0, 2, 3, 1}) {
		t.Errorf("%v", got)
	}
}

// P16.1: any candidates: each index once, and any two of them in their order.
func TestRankOfAnyCandidates(t *testing.T) {
	random := rand.New(rand.NewPCG(16, 4))
	for n := range 150 {
		l := some(random, n)
		got := choice.Rank(l...)
		sorted := slices.Clone(got)
		slices.Sort(sorted)
		for i, k := range sorted {
			if i != k {
				t.Fatalf("%d candidates: %v", n, got)
			}
		}
		for i, a := range got {
			for _, b := range got[i+1:] {
				if x := score.Compare(loadOf(l[a]), loadOf(l[b])); x > 0 || x == 0 && a > b {
					t.Fatalf("%v before %v", l[a], l[b])
				}
			}
		}
		if len(got) != n {
			t.Errorf("%d candidates: %v", n, got)
		}
	}
}

// Rule 5: lists are left as they are, also behind their ends, and a rank that is changed does not change the next one.
func TestListsAreLeft(t *testing.T) {
	l := []choice.Candidate{{Name: "a", Weight: -1, Busy: -1, Time: -1}, {Name: "b", Weight: 2, Busy: 3, Time: negativeZero()}, {Name: "c", Weight: 1, Time: 4}}
	before := slices.Clone(l)
	choice.Least(l[:2]...)
	choice.Two(drawing(0, 1, 2), l[:2]...)
	clear(choice.Rank(l[:2]...))
	if !slices.Equal(l, before) || !math.Signbit(l[1].Time) {
		t.Errorf("%v", l)
	}
	if got := choice.Rank(l...); !slices.Equal(got, []int{1, 2, 0}) {
		t.Errorf("%v", got)
	}
}
