package score_test

import (
	"cmp"
	"math"
	"math/big"
	"math/rand/v2"
	"slices"
	"strconv"
	"testing"

	"steward/score"
)

const (
	tiny = math.SmallestNonzeroFloat64
	huge = math.MaxFloat64
)

func negativeZero() float64 { return math.Copysign(0, -1) }

// ascending returns groups of equal numbers, in the order in which they come.
func ascending() [][]float64 {
	return [][]float64{
		{math.Inf(-1)}, {-huge}, {-1e16}, {-3}, {-2.5}, {-1}, {-0.1}, {-0x1p-1022}, {-2 * tiny}, {-tiny},
		{negativeZero(), 0},
		{tiny}, {2 * tiny}, {3 * tiny}, {0x1p-1022}, {0.1}, {1.0 / 3}, {0.5}, {math.Nextafter(1, 0)}, {1}, {math.Nextafter(1, 2)},
		{2}, {3}, {5}, {7.25}, {1 << 53}, {1e16}, {huge / 2}, {huge}, {math.Inf(1)},
		{math.NaN(), math.Copysign(math.NaN(), -1), math.Float64frombits(0x7ff8_0000_dead_beef), math.Float64frombits(math.MaxUint64)},
	}
}

// special returns all numbers of ascending.
func special() []float64 {
	return slices.Concat(ascending()...)
}

// someNumbers returns n numbers of all sizes and signs, some of them special.
func someNumbers(n int) []float64 {
	r := rand.New(rand.NewPCG(13, uint64(n)))
	l := special()
	for len(l) < n {
		l = append(l, math.Float64frombits(r.Uint64()), r.NormFloat64(), float64(r.IntN(100)))
	}
	r.Shuffle(len(l), func(i, j int) { l[i], l[j] = l[j], l[i] })
	return l[:n]
}

// shares returns numbers at and around the ends of what a share may be.
func shares() []float64 {
	return []float64{math.Inf(-1), -1, -tiny, negativeZero(), 0, tiny, 0.1, 0.125, 0.25, 1.0 / 3, 0.5, 0.9, math.Nextafter(1, 0), 1, math.Nextafter(1, 2), 7, math.Inf(1), math.NaN()}
}

// same reports whether got is the value want, with a positive zero.
func same(got, want float64) bool {
	if math.IsNaN(want) {
		return math.IsNaN(got)
	}
	return got == want && (got != 0 || !math.Signbit(got))
}

func exact(x float64) *big.Rat {
	return new(big.Rat).SetFloat64(x)
}

// rounded returns the float64 nearest to an exact number.
func rounded(x *big.Rat) float64 {
	f, _ := x.Float64()
	return f
}

// P13.1: each number against each other one.
func TestCompare(t *testing.T) {
	for i, l := range ascending() {
		for j, m := range ascending() {
			for _, a := range l {
				for _, b := range m {
					if got, want := score.Compare(a, b), cmp.Compare(i, j); got != want {
						t.Errorf("Compare(%v, %v) = %d, want %d", a, b, got, want)
					}
				}
			}
		}
	}
}

// P13.2: antisymmetric and transitive, so that numbers in order are so at any distance.
func TestCompareIsAnOrder(t *testing.T) {
	l := someNumbers(150)
	for _, a := range l {
		for _, b := range l {
			ab := score.Compare(a, b)
			if score.Compare(b, a) != -ab {
				t.Fatalf("%v and %v: %d and %d", a, b, ab, score.Compare(b, a))
			}
			for _, c := range l {
				if ab <= 0 && score.Compare(b, c) <= 0 && score.Compare(a, c) > 0 {
					t.Fatalf("%v, %v, %v", a, b, c)
				}
			}
		}
	}
}

// leastOf returns the first index such that no other element comes before that one.
func leastOf(l []float64) int {
	for i, x := range l {
		if !slices.ContainsFunc(l, func(y float64) bool { return score.Compare(y, x) < 0 }) {
			return i
		}
	}
	return -1
}

// P13.1: all lists of up to three numbers, and longer ones.
func TestLeast(t *testing.T) {
	lists := [][]float64{nil, {}}
	for _, a := range special() {
		lists = append(lists, []float64{a})
		for _, b := range special() {
			lists = append(lists, []float64{a, b})
			for _, c := range special() {
				lists = append(lists, []float64{a, b, c})
			}
		}
	}
	for n := range 200 {
		lists = append(lists, someNumbers(n))
	}
	for _, l := range lists {
		if got, want := score.Least(l...), leastOf(l); got != want {
			t.Errorf("Least(%v) = %d, want %d", l, got, want)
		}
	}
}

// P13.1: the first one of several, NaN after all numbers, and no element at all.
func TestLeastOfEqualOnes(t *testing.T) {
	nan, inf := math.NaN(), math.Inf(1)
	for i, x := range []struct {
		want int
		l    []float64
	}{
		{-1, nil}, {0, []float64{nan}}, {0, []float64{nan, nan}}, {1, []float64{nan, inf}}, {0, []float64{inf, nan, inf}},
		{2, []float64{nan, 3, negativeZero(), 0}}, {1, []float64{3, 0, negativeZero()}}, {3, []float64{2, 2, 2, 1, 2, 1}},
		{1, []float64{-1, -inf, -inf}}, {0, []float64{5, 5, 5}},
	} {
		if got := score.Least(x.l...); got != x.want {
			t.Errorf("%d: %d, want %d", i, got, x.want)
		}
	}
}

// Rule 5: the list is left as it is, and so is its spare capacity.
func TestLeastLeavesItsList(t *testing.T) {
	l := []float64{3, 1, 2, 9}
	score.Least(l[:3]...)
	if !slices.Equal(l, []float64{3, 1, 2, 9}) {
		t.Errorf("%v", l)
	}
}

// P13.1: all but the negative zero remains as it is.
func TestPlain(t *testing.T) {
	for _, x := range someNumbers(1000) {
		if got := score.Plain(x); !same(got, x) {
			t.Errorf("Plain(%v) = %v", x, got)
		}
	}
}

// P13.1: each three numbers, also when lo comes after hi or one of them is NaN.
func TestClamp(t *testing.T) {
	for _, x := range special() {
		for _, lo := range special() {
			for _, hi := range special() {
				want := x
				if score.Compare(x, hi) > 0 {
					want = hi
				} else if score.Compare(x, lo) < 0 {
					want = lo
				}
				if got := score.Clamp(x, lo, hi); !same(got, want) {
					t.Errorf("Clamp(%v, %v, %v) = %v, want %v", x, lo, hi, got, want)
				}
			}
		}
	}
}

// P13.1: inside and outside, at both ends, and with NaN in each place.
func TestClampOfSomeNumbers(t *testing.T) {
	nan, inf := math.NaN(), math.Inf(1)
	for i, x := range []struct{ x, lo, hi, want float64 }{
		{3, 1, 5, 3}, {0, 1, 5, 1}, {6, 1, 5, 5}, {1, 1, 5, 1}, {5, 1, 5, 5},
		{inf, 1, 5, 5}, {-inf, 1, 5, 1}, {nan, 1, 5, 5}, {nan, 1, inf, inf}, {nan, 1, nan, nan}, {nan, nan, nan, nan},
		{3, nan, 5, nan}, {6, nan, 5, 5}, {5, nan, 5, nan}, {3, 1, nan, 3}, {0, 1, nan, 1}, {inf, 1, nan, inf},
		{3, 5, 1, 1}, {0, 5, 1, 5}, {1, 5, 1, 5}, {7, 5, 1, 1},
		{negativeZero(), 0, 1, 0}, {0, negativeZero(), 1, 0}, {-1, negativeZero(), 1, 0}, {1, -1, negativeZero(), 0},
	} {
		if got := score.Clamp(x.x, x.lo, x.hi); !same(got, x.want) {
			t.Errorf("%d: %v, want %v", i, got, x.want)
		}
	}
}

// busyOf returns how many requests count.
func busyOf(busy int) int64 {
	return min(max(int64(busy), 0), 1<<40)
}

// loadOf returns the load for a weight of at least 1, from exact numbers that are rounded twice.
func loadOf(busy, weight int, time float64) float64 {
	if math.IsNaN(time) || math.IsInf(time, 1) {
		return time
	}
	if time < 0 {
		return 0
	}
	product := rounded(new(big.Rat).Mul(big.NewRat(busyOf(busy)+1, 1), exact(time)))
	if math.IsInf(product, 1) {
		return product
	}
	return rounded(new(big.Rat).Quo(exact(product), big.NewRat(int64(weight), 1)))
}

// loadAtOnce returns the load as one operation: what Load must not return.
func loadAtOnce(busy, weight int, time float64) float64 {
	return rounded(new(big.Rat).Mul(big.NewRat(busyOf(busy)+1, int64(weight)), exact(time)))
}

// P13.1: the exact product is rounded, and then the exact quotient.
func TestLoad(t *testing.T) {
	apart := 0
	for _, busy := range []int{math.MinInt, -1, 0, 1, 2, 9, 1000, 65535, 1<<40 - 1, 1 << 40, 1<<40 + 1, math.MaxInt} {
		for _, weight := range []int{1, 2, 3, 7, 10, 65535, 1<<53 - 1} {
			for _, time := range someNumbers(200) {
				want := loadOf(busy, weight, time)
				if got := score.Load(busy, weight, time); !same(got, want) {
					t.Errorf("Load(%d, %d, %v) = %v, want %v", busy, weight, time, got, want)
				}
				if time > 0 && !math.IsInf(time, 1) && loadAtOnce(busy, weight, time) != want {
					apart++
				}
			}
		}
	}
	if apart == 0 {
		t.Error("no load depends on how often it is rounded")
	}
}

// P13.1: no weight, limits of busy, times before 0, and numbers without a finite product.
func TestLoadOfSomeNumbers(t *testing.T) {
	nan, inf := math.NaN(), math.Inf(1)
	for i, x := range []struct {
		busy, weight int
		time, want   float64
	}{
		{1, 0, 5, inf}, {1, 0, nan, inf}, {1, -1, nan, inf}, {1, math.MinInt, -1, inf}, {0, 0, 0, inf}, {0, 0, -inf, inf},
		{3, 2, 5, 10}, {0, 1, 7, 7}, {0, 3, 1, 1.0 / 3}, {-1, 1, 7, 7}, {math.MinInt, 1, 7, 7},
		{1 << 40, 1, 1, 1<<40 + 1}, {1<<40 + 1, 1, 1, 1<<40 + 1}, {math.MaxInt, 1, 1, 1<<40 + 1}, {1<<40 - 1, 1, 1, 1 << 40},
		{1, 1, -3, 0}, {1, 1, -inf, 0}, {1, 1, -tiny, 0}, {1, 1, negativeZero(), 0}, {1, 1, 0, 0},
		{1, 1, nan, nan}, {0, 9, inf, inf}, {1, 2, huge, inf}, {0, 2, huge, huge / 2}, {1, 65535, 2 * huge / 3, inf},
		{0, 2, tiny, 0}, {1, 2, tiny, tiny}, {2, 2, tiny, 2 * tiny}, {0, math.MaxInt, 1, 0x1p-63},
	} {
		if got := score.Load(x.busy, x.weight, x.time); !same(got, x.want) {
			t.Errorf("%d: %v, want %v", i, got, x.want)
		}
	}
}

// meanOf returns the mean, and whether it is the result of three operations; these are exact, and each is rounded.
func meanOf(old, sample, share float64) (float64, bool) {
	if math.IsNaN(share) || share > 1 {
		share = 1
	}
	switch {
	case math.IsNaN(old):
		return sample, false
	case math.IsNaN(sample) || share <= 0:
		return old, false
	case math.IsInf(old, 0) || math.IsInf(sample, 0):
		return sample, false
	}
	difference := rounded(new(big.Rat).Sub(exact(sample), exact(old)))
	if math.IsInf(difference, 0) {
		return sample, false
	}
	part := rounded(new(big.Rat).Mul(exact(share), exact(difference)))
	sum := rounded(new(big.Rat).Add(exact(old), exact(part)))
	return min(max(sum, min(old, sample)), max(old, sample)), true
}

// P13.1: the exact difference is rounded, then the product, and then the sum.
func TestMean(t *testing.T) {
	fused := 0
	pairs := make([][2]float64, 0)
	for _, old := range special() {
		for _, sample := range special() {
			pairs = append(pairs, [2]float64{old, sample})
		}
	}
	l := someNumbers(3000)
	for i := range len(l) - 1 {
		pairs = append(pairs, [2]float64(l[i:i+2]), [2]float64{math.Abs(l[i]), float64(i)}, [2]float64{float64(i), 1 / float64(i+3)})
	}
	for _, p := range pairs {
		for _, share := range shares() {
			want, computed := meanOf(p[0], p[1], share)
			if got := score.Mean(p[0], p[1], share); !same(got, want) {
				t.Errorf("Mean(%v, %v, %v) = %v, want %v", p[0], p[1], share, got, want)
			}
			if computed && share < 1 && math.FMA(share, p[1]-p[0], p[0]) != want {
				fused++
			}
		}
	}
	if fused == 0 {
		t.Error("no mean depends on how often it is rounded")
	}
}

// P13.1: the first case that applies, the limits of the share, and results that are clamped.
func TestMeanOfSomeNumbers(t *testing.T) {
	nan, inf := math.NaN(), math.Inf(1)
	for i, x := range []struct{ old, sample, share, want float64 }{
		{10, 20, 0.25, 12.5}, {20, 10, 0.125, 18.75}, {-1, 1, 0.5, 0}, {4, 4, 0.3, 4},
		{nan, 4, 0.5, 4}, {nan, 4, 0, 4}, {nan, nan, 0, nan}, {nan, inf, 0, inf}, {nan, -inf, nan, -inf},
		{4, nan, 1, 4}, {inf, nan, 1, inf}, {4, inf, 0, 4}, {inf, 4, 0, inf}, {4, inf, negativeZero(), 4},
		{inf, 4, 0.5, 4}, {-inf, 4, 0.5, 4}, {4, inf, 0.5, inf}, {4, -inf, 0.5, -inf}, {inf, -inf, 0.5, -inf}, {inf, inf, 0.5, inf},
		{1, 2, nan, 2}, {1, 2, 5, 2}, {1, 2, inf, 2}, {1, 2, -5, 1}, {1, 2, -inf, 1}, {1, inf, -1, 1},
		{1e16, 1, 1, 1}, {-huge, huge, 0.5, huge}, {huge, -huge, 0.5, -huge}, {-huge, huge, 0, -huge},
		{negativeZero(), negativeZero(), 0.5, 0}, {nan, negativeZero(), 0.5, 0}, {negativeZero(), nan, 0.5, 0}, {0, tiny, 0.5, 0},
		{inf, negativeZero(), 0.5, 0}, {negativeZero(), inf, 0, 0}, {negativeZero(), -tiny, 0.5, 0}, {-tiny, 0, 1, 0},
	} {
		if got := score.Mean(x.old, x.sample, x.share); !same(got, x.want) {
			t.Errorf("%d: %v, want %v", i, got, x.want)
		}
	}
}

// P13.3: between two values that are not NaN, or one of them.
func TestMeanLiesBetween(t *testing.T) {
	l := someNumbers(400)
	for _, old := range l {
		for _, sample := range l {
			if math.IsNaN(old) || math.IsNaN(sample) {
				continue
			}
			for _, share := range shares() {
				if got := score.Mean(old, sample, share); !(min(old, sample) <= got && got <= max(old, sample)) {
					t.Fatalf("Mean(%v, %v, %v) = %v", old, sample, share, got)
				}
			}
		}
	}
}

// halfOf returns x divided by 2, n times, by its exact half, which is rounded each time.
func halfOf(x float64, n int) float64 {
	for range n {
		if !math.IsNaN(x) && !math.IsInf(x, 0) {
			x = rounded(new(big.Rat).Quo(exact(x), big.NewRat(2, 1)))
		}
	}
	return x
}

// P13.1: step by step, and not at all if n is less than 1.
func TestHalve(t *testing.T) {
	for _, x := range someNumbers(150) {
		for _, n := range []int{math.MinInt, -1, 0, 1, 2, 3, 10, 60, 1100} {
			if got, want := score.Halve(x, n), halfOf(x, max(n, 0)); !same(got, want) {
				t.Errorf("Halve(%v, %d) = %v, want %v", x, n, got, want)
			}
		}
	}
}

// P13.1: rounding at each step is not rounding at the end, and any n comes to an end.
func TestHalveOfSomeNumbers(t *testing.T) {
	nan, inf := math.NaN(), math.Inf(1)
	for i, x := range []struct {
		x    float64
		n    int
		want float64
	}{
		{-8, 3, -1}, {5, 0, 5}, {5, -1, 5}, {negativeZero(), 0, 0}, {negativeZero(), -1, 0}, {negativeZero(), 1, 0},
		{tiny, 1, 0}, {2 * tiny, 1, tiny}, {3 * tiny, 1, 2 * tiny}, {5 * tiny, 1, 2 * tiny}, {11 * tiny, 3, 2 * tiny}, {-tiny, 1, 0},
		{1, 1074, tiny}, {1, 1075, 0}, {0x1p1023, 2097, tiny}, {0x1p1023, 2098, 0}, {huge, 2097, 2 * tiny}, {huge, 2098, tiny}, {huge, 2099, 0},
		{huge, math.MaxInt, 0}, {-huge, math.MaxInt, 0}, {0, math.MaxInt, 0}, {inf, math.MaxInt, inf}, {-inf, math.MaxInt, -inf}, {nan, math.MaxInt, nan}, {nan, 0, nan},
	} {
		if got := score.Halve(x.x, x.n); !same(got, x.want) {
			t.Errorf("%d: %v, want %v", i, got, x.want)
		}
	}
}

// P13.1: numbers in each of their forms.
func TestText(t *testing.T) {
	for i, x := range []struct {
		x    float64
		want string
	}{
		{math.NaN(), "nan"}, {math.Copysign(math.NaN(), -1), "nan"}, {math.Inf(1), "inf"}, {math.Inf(-1), "-inf"},
		{0, "0"}, {negativeZero(), "0"}, {1, "1"}, {-1, "-1"}, {0.1, "0.1"}, {2.0 / 3, "0.6666666666666666"}, {-2.5, "-2.5"},
		{1e20, "1e+20"}, {1e21, "1e+21"}, {-1e21, "-1e+21"}, {123456789, "1.23456789e+08"}, {100000, "100000"}, {1e-4, "0.0001"}, {1e-5, "1e-05"},
		{huge, "1.7976931348623157e+308"}, {tiny, "5e-324"}, {-tiny, "-5e-324"},
	} {
		if got := score.Text(x.x); got != x.want {
			t.Errorf("%d: %q, want %q", i, got, x.want)
		}
	}
}

// P13.1: a text is that of exactly one number.
func TestTextIsReadBack(t *testing.T) {
	for _, x := range someNumbers(3000) {
		got := score.Text(x)
		if back, err := strconv.ParseFloat(got, 64); err != nil || !same(back, x) {
			t.Errorf("Text(%v) = %q, read as %v", x, got, back)
		}
	}
}
