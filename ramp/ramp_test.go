package ramp_test

import (
	"math"
	"math/big"
	"math/rand/v2"
	"slices"
	"testing"

	"steward/api"
	"steward/ramp"
)

// numbers are arguments of all sizes.
var numbers = []int{
	math.MinInt, math.MinInt + 1, -1 << 40, -1 << 20, -5, -1, 0, 1, 2, 3, 5, 9, 100, 4095, 4096, 4097, 65534, 65535, 65536,
	1<<20 - 1, 1 << 20, 1<<20 + 1, 1<<40 - 1<<20, 1<<40 - 5, 1<<40 - 1, 1 << 40, 1<<40 + 1, math.MaxInt - 1, math.MaxInt,
}

// weightAt is Weight in the words of the document, with exact numbers.
func weightAt(weight, since, now, slow int) int {
	weight, slow = min(max(weight, 1), 65535), min(max(slow, 0), 1<<20)
	since, now = min(max(since, 0), 1<<40), min(max(now, 0), 1<<40)
	if slow == 0 || now >= since+slow {
		return weight
	}
	age := big.NewInt(0)
	if now >= since {
		age.SetInt64(int64(now - since))
	}
	part := new(big.Int).Mul(big.NewInt(int64(weight)), age)
	part.Div(part, big.NewInt(int64(slow)))
	if part.Sign() == 0 {
		return 1
	}
	return int(part.Int64())
}

// P22.1: Weight for arguments of all sizes, as in the words of the document.
func TestWeightExtremes(t *testing.T) {
	for _, weight := range numbers {
		for _, since := range numbers {
			for _, now := range numbers {
				for _, slow := range numbers {
					if got, want := ramp.Weight(weight, since, now, slow), weightAt(weight, since, now, slow); got != want {
						t.Fatalf("Weight(%d, %d, %d, %d) is %d, want %d", weight, since, now, slow, got, want)
					}
				}
			}
		}
	}
}

// P22.1: Weight for random arguments about the time in which it grows.
func TestWeight(t *testing.T) {
	rng := rand.New(rand.NewPCG(22, 1))
	for range 200000 {
		weight, slow := rng.IntN(70000)>>rng.IntN(17), rng.IntN(1<<21)>>rng.IntN(21)
		since := rng.IntN(1<<41) >> rng.IntN(41)
		now := since + rng.IntN(slow+9) - 4
		if got, want := ramp.Weight(weight, since, now, slow), weightAt(weight, since, now, slow); got != want {
			t.Fatalf("Weight(%d, %d, %d, %d) is %d, want %d", weight, since, now, slow, got, want)
		}
	}
}

// P22.1: Weight as written out.
func TestWeightCases(t *testing.T) {
	for _, x := range []struct{ weight, since, now, slow, want int }{
		{10, 100, 100, 5, 1}, {10, 100, 101, 5, 2}, {10, 100, 104, 5, 8}, {10, 100, 105, 5, 10}, {10, 100, 106, 5, 10},
		{10, 100, 99, 5, 1}, {10, 100, -7, 5, 1}, {10, 100, 0, 0, 10}, {10, 100, 0, -3, 10}, {10, 100, 100, 0, 10},
		{3, 0, 5, 10, 1}, {3, 0, 6, 10, 1}, {3, 0, 7, 10, 2}, {3, 0, 9, 10, 2}, {3, 0, 10, 10, 3},
		{-9, 0, 3, 4, 1}, {0, 0, 3, 4, 1}, {0, 0, 4, 4, 1}, {65536, 0, 4, 4, 65535}, {math.MaxInt, 0, 1, 2, 32767},
		{2, -50, 0, 2, 1}, {2, -50, 1, 2, 1}, {2, -50, 2, 2, 2}, // since counts as 0
		{65535, 0, 1 << 20, math.MaxInt, 65535}, {65535, 0, 1<<20 - 1, math.MaxInt, 65534},
		{10, 1 << 40, 1 << 40, 5, 1}, {10, math.MaxInt, math.MaxInt, 5, 1}, {10, 1<<40 - 3, math.MaxInt, 5, 6}, {10, 1<<40 - 5, math.MaxInt, 5, 10},
	} {
		if got := ramp.Weight(x.weight, x.since, x.now, x.slow); got != x.want {
			t.Errorf("%+v: %d", x, got)
		}
	}
}

// P22.1: Next by asking for the Weight at each tick, up to the last one.
func TestNext(t *testing.T) {
	for _, base := range []int{-3, 0, 7, 1 << 30, 1<<40 - 20, 1<<40 - 4} {
		for _, weight := range []int{-1, 0, 1, 2, 3, 5, 10, 29, 30, 31, 65535, 65536} {
			for slow := -1; slow <= 33; slow++ {
				for now := base - 4; now <= base+36; now++ {
					at, is := 0, false
					for tick := max(now+1, 0); tick <= min(max(base, 0)+40, api.MaxClock); tick++ {
						if weightAt(weight, base, tick, slow) != weightAt(weight, base, now, slow) {
							at, is = tick, true
							break
						}
					}
					if got, found := ramp.Next(weight, base, now, slow); got != at || found != is {
						t.Fatalf("Next(%d, %d, %d, %d) is %d %t, want %d %t", weight, base, now, slow, got, found, at, is)
					}
				}
			}
		}
	}
}

// P22.1: Next for arguments of all sizes: at that tick the Weight is another one, at the tick before it is not, and if there is none it does not differ at the end of all ticks.
func TestNextExtremes(t *testing.T) {
	for _, weight := range numbers {
		for _, since := range numbers {
			for _, now := range numbers {
				for _, slow := range numbers {
					at, is := ramp.Next(weight, since, now, slow)
					first := weightAt(weight, since, now, slow)
					if !is {
						if at != 0 || weightAt(weight, since, math.MaxInt, slow) != first {
							t.Fatalf("Next(%d, %d, %d, %d) is %d false", weight, since, now, slow, at)
						}
						continue
					}
					if at <= now || at < 1 || at > api.MaxClock || weightAt(weight, since, at-1, slow) != first || weightAt(weight, since, at, slow) == first {
						t.Fatalf("Next(%d, %d, %d, %d) is %d", weight, since, now, slow, at)
					}
				}
			}
		}
	}
}

// P22.1: Next as written out.
func TestNextCases(t *testing.T) {
	for _, x := range []struct {
		weight, since, now, slow, at int
		is                           bool
	}{
		{10, 0, 0, 5, 1, true}, {3, 10, 10, 9, 16, true}, {3, 10, 15, 9, 16, true}, {3, 10, 16, 9, 19, true}, {3, 10, 18, 9, 19, true}, {3, 10, 19, 9, 0, false},
		{3, 10, -8, 9, 16, true}, {1, 0, 0, 9, 0, false}, {2, 0, 0, 9, 9, true}, {0, 0, 0, 9, 0, false}, {5, 0, 0, 0, 0, false}, {5, 9, 0, -1, 0, false},
		{2, 1<<40 - 9, 0, 9, 1 << 40, true}, {2, 1<<40 - 8, 0, 9, 0, false}, {2, math.MaxInt, 0, 1, 0, false}, {2, 5, math.MaxInt, 9, 0, false},
	} {
		if at, is := ramp.Next(x.weight, x.since, x.now, x.slow); at != x.at || is != x.is {
			t.Errorf("%+v: %d %t", x, at, is)
		}
	}
}

// P22.1: Steps as Weight at each tick, whatever since is.
func TestSteps(t *testing.T) {
	for _, weight := range []int{math.MinInt, -1, 0, 1, 2, 7, 100, 4096, 65534, 65535, 65536, math.MaxInt} {
		for _, slow := range []int{math.MinInt, -1, 0, 1, 2, 3, 10, 99, 4095, 4096, 4097, 1 << 20, math.MaxInt} {
			var want []int
			for age := range min(max(slow, 0), 4096) + 1 {
				want = append(want, weightAt(weight, 0, age, min(max(slow, 0), 4096)))
			}
			for _, since := range []int{math.MinInt, -1, 0, 5, 1<<40 - 2, 1 << 40, math.MaxInt} {
				if got := ramp.Steps(weight, since, slow); !slices.Equal(got, want) {
					t.Fatalf("Steps(%d, %d, %d) is %v, want %v", weight, since, slow, got, want)
				}
			}
		}
	}
}

// P22.1: the example of the document, and the ends of Steps.
func TestStepsCases(t *testing.T) {
	for _, x := range []struct {
		weight, since, slow int
		want                []int
	}{
		{10, 0, 5, []int{1, 2, 4, 6, 8, 10}}, {10, 1 << 40, 5, []int{1, 2, 4, 6, 8, 10}}, {10, 7, 0, []int{10}}, {10, 7, -2, []int{10}},
		{0, 0, 3, []int{1, 1, 1, 1}}, {70000, 0, 2, []int{1, 32767, 65535}}, {3, 0, 1, []int{1, 3}},
	} {
		if got := ramp.Steps(x.weight, x.since, x.slow); !slices.Equal(got, x.want) {
			t.Errorf("%+v: %v", x, got)
		}
	}
}

// P22.1: the lists of two calls do not share memory (rule 5).
func TestStepsMemory(t *testing.T) {
	a, b := ramp.Steps(10, 0, 5), ramp.Steps(10, 0, 5)
	clear(a)
	if want := []int{1, 2, 4, 6, 8, 10}; !slices.Equal(b, want) || !slices.Equal(ramp.Steps(10, 0, 5), want) {
		t.Errorf("%v", b)
	}
}

// P22.2: the Weight never decreases, stays between 1 and the weight, and is whole after slow ticks.
func TestGrows(t *testing.T) {
	rng := rand.New(rand.NewPCG(22, 2))
	for range 2000 {
		weight, slow, since := 1+rng.IntN(65535)>>rng.IntN(16), rng.IntN(2000)>>rng.IntN(11), rng.IntN(1<<40-5000)
		last := 1
		for now := since - 3; now <= since+slow+3; now++ {
			got := ramp.Weight(weight, since, now, slow)
			if got < last || got > weight {
				t.Fatalf("Weight(%d, %d, %d, %d) is %d after %d", weight, since, now, slow, got, last)
			}
			if now >= since+slow && got != weight {
				t.Fatalf("Weight(%d, %d, %d, %d) is only %d", weight, since, now, slow, got)
			}
			last = got
		}
	}
}

// P22.2: going from one Next to the following visits all weights of Steps, once and in their order.
func TestNextVisitsSteps(t *testing.T) {
	for weight := 1; weight <= 40; weight++ {
		for slow := 0; slow <= 40; slow++ {
			now := 500
			visited := []int{ramp.Weight(weight, 500, now, slow)}
			for at, is := ramp.Next(weight, 500, now, slow); is; at, is = ramp.Next(weight, 500, now, slow) {
				now = at
				visited = append(visited, ramp.Weight(weight, 500, now, slow))
			}
			if want := slices.Compact(ramp.Steps(weight, 500, slow)); !slices.Equal(visited, want) || now > 500+slow {
				t.Fatalf("weight %d, slow %d: %v, want %v", weight, slow, visited, want)
			}
		}
	}
}
