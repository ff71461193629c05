package probe_test

import (
	"math"
	"math/rand/v2"
	"slices"
	"testing"

	"steward/probe"
)

// numbers are counters and ticks of all sizes.
var numbers = []int{math.MinInt, math.MinInt + 1, -1 << 40, -1000, -2, -1, 0, 1, 2, 3, 4, 5, 998, 999, 1000, 1001, 1002, 1 << 20, 1 << 40, math.MaxInt - 1, math.MaxInt}

// needed reports whether a counter that is incremented is then at least a limited number.
func needed(counter, limit int) bool {
	if counter < 0 {
		counter = 0
	}
	return counter == math.MaxInt || counter+1 >= min(max(limit, 1), 1000)
}

// result is Result in the words of the document.
func result(p probe.Probe, c probe.Config, good bool, now int) (probe.Probe, bool) {
	if good {
		p.Bad = 0
		if p.Up {
			return p, false
		}
		if needed(p.Good, c.Rise) {
			p.Up, p.Good, p.Since = true, 0, now
			return p, true
		}
		p.Good = min(max(p.Good, 0), math.MaxInt) + 1
		return p, false
	}
	p.Good = 0
	if !p.Up {
		return p, false
	}
	if needed(p.Bad, c.Fall) {
		p.Up, p.Bad, p.Since = false, 0, now
		return p, true
	}
	p.Bad = min(max(p.Bad, 0), math.MaxInt) + 1
	return p, false
}

// P21.1: Clip of each number below, at, and beyond the limits.
func TestClip(t *testing.T) {
	for _, x := range []struct{ n, ticks, results int }{
		{math.MinInt, 1, 1}, {-1, 1, 1}, {0, 1, 1}, {1, 1, 1}, {2, 2, 2}, {999, 999, 999}, {1000, 1000, 1000}, {1001, 1001, 1000},
		{1<<20 - 1, 1<<20 - 1, 1000}, {1 << 20, 1 << 20, 1000}, {1<<20 + 1, 1 << 20, 1000}, {math.MaxInt, 1 << 20, 1000},
	} {
		for _, y := range []struct{ c, want probe.Config }{
			{probe.Config{Every: x.n, Wait: 7, Rise: 8, Fall: 9}, probe.Config{Every: x.ticks, Wait: 7, Rise: 8, Fall: 9}},
			{probe.Config{Every: 6, Wait: x.n, Rise: 8, Fall: 9}, probe.Config{Every: 6, Wait: x.ticks, Rise: 8, Fall: 9}},
			{probe.Config{Every: 6, Wait: 7, Rise: x.n, Fall: 9}, probe.Config{Every: 6, Wait: 7, Rise: x.results, Fall: 9}},
			{probe.Config{Every: 6, Wait: 7, Rise: 8, Fall: x.n}, probe.Config{Every: 6, Wait: 7, Rise: 8, Fall: x.results}},
		} {
			if got := y.c.Clip(); got != y.want {
				t.Errorf("%+v: %+v, want %+v", y.c, got, y.want)
			}
		}
	}
	if got, want := (probe.Config{}).Clip(), (probe.Config{Every: 1, Wait: 1, Rise: 1, Fall: 1}); got != want {
		t.Errorf("zero: %+v", got)
	}
}

// P21.1: New has no results, since any tick.
func TestNew(t *testing.T) {
	for _, now := range numbers {
		for _, up := range []bool{false, true} {
			if got, want := probe.New(up, now), (probe.Probe{Up: up, Since: now}); got != want {
				t.Errorf("New(%t, %d) is %+v", up, now, got)
			}
		}
	}
}

// P21.1: Result of Probes with any counters, for limits of all sizes, as in the words of the document.
func TestResult(t *testing.T) {
	for _, g := range numbers {
		for _, b := range numbers {
			for _, limit := range numbers {
				for bits := range 8 {
					p := probe.Probe{Up: bits&1 > 0, Good: g, Bad: b, Since: 17}
					good, now := bits&2 > 0, 23
					if bits&4 > 0 {
						now = math.MinInt
					}
					// The limit of the other direction, and the ticks, have no influence.
					c := probe.Config{Every: b, Wait: g, Rise: 3, Fall: limit}
					if good {
						c = probe.Config{Every: b, Wait: g, Rise: limit, Fall: 3}
					}
					was := p
					got, changed := p.Result(c, good, now)
					want, is := result(p, c, good, now)
					if got != want || changed != is {
						t.Fatalf("%+v, %+v, %t: %+v %t, want %+v %t", p, c, good, got, changed, want, is)
					}
					if p != was {
						t.Fatalf("%+v has become %+v", was, p)
					}
				}
			}
		}
	}
}

// P21.1: Result as written out: what each case changes, and what it leaves as it is.
func TestResultCases(t *testing.T) {
	c := probe.Config{Rise: 3, Fall: 2}
	for _, x := range []struct {
		p       probe.Probe
		good    bool
		want    probe.Probe
		changed bool
	}{
		{probe.Probe{}, true, probe.Probe{Good: 1}, false},
		{probe.Probe{}, false, probe.Probe{}, false},
		{probe.Probe{Good: 1, Bad: 5, Since: 4}, true, probe.Probe{Good: 2, Since: 4}, false},
		{probe.Probe{Good: 2, Bad: 5, Since: 4}, true, probe.Probe{Up: true, Since: 9}, true},
		{probe.Probe{Good: 77}, true, probe.Probe{Up: true, Since: 9}, true},
		{probe.Probe{Good: math.MaxInt}, true, probe.Probe{Up: true, Since: 9}, true},
		{probe.Probe{Good: -6, Bad: -6}, true, probe.Probe{Good: 1}, false},
		{probe.Probe{Good: 2, Bad: 5, Since: 4}, false, probe.Probe{Bad: 5, Since: 4}, false},
		{probe.Probe{Good: 2, Bad: -5, Since: 4}, false, probe.Probe{Bad: -5, Since: 4}, false},
		{probe.Probe{Up: true, Good: 3, Bad: 1, Since: 4}, true, probe.Probe{Up: true, Good: 3, Since: 4}, false},
		{probe.Probe{Up: true, Good: -3, Bad: 1, Since: 4}, true, probe.Probe{Up: true, Good: -3, Since: 4}, false},
		{probe.Probe{Up: true, Good: 3, Since: 4}, false, probe.Probe{Up: true, Bad: 1, Since: 4}, false},
		{probe.Probe{Up: true, Bad: 1, Since: 4}, false, probe.Probe{Since: 9}, true},
		{probe.Probe{Up: true, Bad: 80, Good: 1}, false, probe.Probe{Since: 9}, true},
		{probe.Probe{Up: true, Bad: math.MaxInt}, false, probe.Probe{Since: 9}, true},
		{probe.Probe{Up: true, Bad: math.MinInt}, false, probe.Probe{Up: true, Bad: 1}, false},
	} {
		if got, changed := x.p.Result(c, x.good, 9); got != x.want || changed != x.changed {
			t.Errorf("%+v, %t: %+v %t, want %+v %t", x.p, x.good, got, changed, x.want, x.changed)
		}
	}
}

// P21.1: Run is Result for each element in order, and the sum of the changes.
func TestRun(t *testing.T) {
	rng := rand.New(rand.NewPCG(21, 1))
	for range 5000 {
		c := probe.Config{Rise: rng.IntN(6) - 1, Fall: rng.IntN(6) - 1}
		p := probe.Probe{Up: rng.IntN(2) > 0, Good: numbers[rng.IntN(len(numbers))], Bad: numbers[rng.IntN(len(numbers))], Since: rng.IntN(9)}
		now := numbers[rng.IntN(len(numbers))]
		l := make([]bool, rng.IntN(40))
		mostly := rng.IntN(5)
		for i := range l {
			l[i] = rng.IntN(5) < mostly
		}
		was := slices.Clone(l)
		want, changes := p, 0
		for _, good := range l {
			next, changed := result(want, c, good, now)
			if changed {
				changes++
			}
			want = next
		}
		if got, n := p.Run(c, now, l...); got != want || n != changes {
			t.Fatalf("%+v, %+v, %v: %+v %d, want %+v %d", p, c, l, got, n, want, changes)
		}
		if !slices.Equal(l, was) {
			t.Fatalf("%v has become %v", was, l)
		}
	}
}

// P21.1: Run with no results changes nothing, whatever the Probe; and with as many changes as results.
func TestRunEnds(t *testing.T) {
	for _, n := range numbers {
		p := probe.Probe{Up: n%2 == 0, Good: n, Bad: n, Since: n}
		if got, changes := p.Run(probe.Config{}, 5); got != p || changes != 0 {
			t.Errorf("%+v: %+v %d", p, got, changes)
		}
		if got, changes := p.Run(probe.Config{}, 5, nil...); got != p || changes != 0 {
			t.Errorf("%+v: %+v %d", p, got, changes)
		}
	}
	got, changes := probe.Probe{}.Run(probe.Config{}, 5, true, false, true, true, false)
	if want := (probe.Probe{Since: 5}); got != want || changes != 4 {
		t.Errorf("%+v %d", got, changes)
	}
}

// P21.2: the example of the document.
func TestExample(t *testing.T) {
	c := probe.Config{Rise: 2, Fall: 9}
	l := []bool{true, false, true, true}
	for n := range len(l) + 1 {
		p, changes := probe.New(false, 0).Run(c, 3, l[:n]...)
		if up := n == 4; p.Up != up || changes == 1 != up {
			t.Errorf("after %d: %+v %d", n, p, changes)
		}
	}
}

// P21.2: a backend changes exactly at the last of as many consecutive results as needed, for every number of them.
func TestConsecutive(t *testing.T) {
	for _, up := range []bool{false, true} {
		for limit := -1; limit <= 1003; limit++ {
			c := probe.Config{Rise: limit, Fall: 2000}
			if up {
				c = probe.Config{Rise: 2000, Fall: limit}
			}
			p, need := probe.New(up, 1), min(max(limit, 1), 1000)
			for n := 1; n <= need; n++ {
				next, changed := p.Result(c, !up, 100+n)
				if changed != (n == need) || next.Up == up != (n < need) {
					t.Fatalf("limit %d: %d results change %+v to %+v %t", limit, n, p, next, changed)
				}
				if n < need && next.Since != 1 || n == need && next != probe.New(!up, 100+n) {
					t.Fatalf("limit %d: after %d results %+v", limit, n, next)
				}
				p = next
			}
		}
	}
}

// P21.2: one result of the other kind, and the count starts again.
func TestInterrupted(t *testing.T) {
	c := probe.Config{Rise: 4, Fall: 4}
	for _, up := range []bool{false, true} {
		p := probe.New(up, 1)
		for i := range 60 {
			q, changed := p.Result(c, up == (i%4 == 3), i)
			if changed || q.Up != up || q.Since != 1 {
				t.Fatalf("%t, result %d: %+v", up, i, q)
			}
			p = q
		}
		for n := range 4 {
			q, changed := p.Result(c, !up, 70+n)
			if changed != (n == 3) {
				t.Fatalf("%t, at the end %d: %+v", up, n, q)
			}
			p = q
		}
	}
}
