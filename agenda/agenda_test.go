package agenda_test

import (
	"math"
	"math/rand/v2"
	"slices"
	"strconv"
	"testing"

	"steward/agenda"
	"steward/api"
)

// scheduled is a key with its tick.
type scheduled[K comparable] struct {
	key K
	at  int
}

// model is an agenda by the words of the document: the keys in the order in which they were set.
type model[K comparable] struct {
	l []scheduled[K]
}

func (m *model[K]) set(k K, at int) {
	m.drop(k)
	if at < 0 {
		at = 0
	}
	if at > 1<<40 {
		at = 1 << 40
	}
	m.l = append(m.l, scheduled[K]{k, at})
}

func (m *model[K]) drop(k K) bool {
	before := len(m.l)
	m.l = slices.DeleteFunc(m.l, func(s scheduled[K]) bool { return s.key == k })
	return len(m.l) < before
}

func (m *model[K]) at(k K) (int, bool) {
	for _, s := range m.l {
		if s.key == k {
			return s.at, true
		}
	}
	return 0, false
}

// due returns the keys in the order in which they are due.
func (m *model[K]) due() []scheduled[K] {
	l := slices.Clone(m.l)
	slices.SortStableFunc(l, func(a, b scheduled[K]) int { return a.at - b.at })
	return l
}

func (m *model[K]) pop(now int) (K, int, bool) {
	l := m.due()
	if len(l) == 0 || l[0].at > now {
		var zero K
		return zero, 0, false
	}
	m.drop(l[0].key)
	return l[0].key, l[0].at, true
}

// same compares an agenda with a model.
func same[K comparable](t *testing.T, a *agenda.Agenda[K], m *model[K]) {
	t.Helper()
	var keys []K
	for _, s := range m.due() {
		keys = append(keys, s.key)
	}
	if got := a.Keys(); !slices.Equal(got, keys) {
		t.Fatalf("Keys are %v, want %v", got, keys)
	}
	if a.Len() != len(keys) {
		t.Fatalf("Len is %d, want %d", a.Len(), len(keys))
	}
	at, is := a.First()
	if len(keys) == 0 && (at != 0 || is) || len(keys) > 0 && (at != m.due()[0].at || !is) {
		t.Fatalf("First is %d %t of %v", at, is, m.due())
	}
}

// popped checks what Pop returns.
func popped[K comparable](t *testing.T, a *agenda.Agenda[K], now int, key K, at int, is bool) {
	t.Helper()
	k, tick, found := a.Pop(now)
	if k != key || tick != at || found != is {
		t.Fatalf("Pop(%d) is %v %d %t, want %v %d %t", now, k, tick, found, key, at, is)
	}
}

// at checks what At returns.
func at[K comparable](t *testing.T, a *agenda.Agenda[K], key K, tick int, is bool) {
	t.Helper()
	if got, found := a.At(key); got != tick || found != is {
		t.Fatalf("At(%v) is %d %t, want %d %t", key, got, found, tick, is)
	}
}

// tick returns a tick, seldom beyond the limits: of few, so that many are equal.
func tick(rng *rand.Rand) int {
	if rng.IntN(50) == 0 {
		return []int{math.MinInt, -1, 0, api.MaxClock - 1, api.MaxClock, api.MaxClock + 1, math.MaxInt}[rng.IntN(7)]
	}
	return rng.IntN(12)
}

// run makes random calls on two agendas for keys of any type, of which one becomes a clone of the other now and then, and compares both with models.
func run[K comparable](t *testing.T, rng *rand.Rand, key func(n int) K) {
	agendas := []*agenda.Agenda[K]{agenda.New[K](), {}}
	models := []*model[K]{{}, {}}
	for range 400 {
		i := rng.IntN(2)
		a, m := agendas[i], models[i]
		k := key(rng.IntN(10))
		switch rng.IntN(8) {
		case 0, 1, 2, 3:
			n := tick(rng)
			a.Set(k, n)
			m.set(k, n)
		case 4:
			if got, want := a.Drop(k), m.drop(k); got != want {
				t.Fatalf("Drop(%v) is %t", k, got)
			}
		case 5, 6:
			now := tick(rng)
			k, n, is := m.pop(now)
			popped(t, a, now, k, n, is)
		case 7:
			agendas[1-i], models[1-i] = a.Clone(), &model[K]{slices.Clone(m.l)}
		}
		n, is := m.at(k)
		at(t, a, k, n, is)
		same(t, agendas[0], models[0])
		same(t, agendas[1], models[1])
	}
	for i, a := range agendas {
		for a.Len() > 0 {
			k, n, is := models[i].pop(api.MaxClock)
			popped(t, a, api.MaxClock, k, n, is)
		}
		same(t, a, models[i])
	}
}

// P20.1: any calls, with keys of several types.
func TestRandom(t *testing.T) {
	type pair struct {
		name string
		n    int
	}
	rng := rand.New(rand.NewPCG(20, 1))
	for range 60 {
		run(t, rng, strconv.Itoa)
		run(t, rng, func(n int) int { return n - 5 })
		run(t, rng, func(n int) pair { return pair{strconv.Itoa(n % 3), n / 3} })
		run(t, rng, func(n int) [2]bool { return [2]bool{n%2 > 0, n > 6} })
		run(t, rng, func(n int) struct{} { return struct{}{} })
		run(t, rng, func(n int) any { return []any{nil, 1, "1", 1.5, true, pair{"a", 1}}[n%6] })
	}
}

// P20.1: the document's example.
func TestExample(t *testing.T) {
	a := agenda.New[string]()
	a.Set("a", 5)
	a.Set("b", 3)
	a.Set("a", 2)
	popped(t, a, 9, "a", 2, true)
	popped(t, a, 9, "b", 3, true)
	popped(t, a, 9, "", 0, false)
}

// P20.1: an agenda without keys, new, cloned, zero or emptied.
func TestEmpty(t *testing.T) {
	emptied := agenda.New[string]()
	emptied.Set("a", 1)
	emptied.Set("b", 1)
	emptied.Drop("a")
	emptied.Pop(1)
	for i, a := range []*agenda.Agenda[string]{agenda.New[string](), {}, agenda.New[string]().Clone(), (&agenda.Agenda[string]{}).Clone(), emptied, emptied.Clone()} {
		for _, now := range []int{math.MinInt, -1, 0, 1, api.MaxClock, math.MaxInt} {
			popped(t, a, now, "", 0, false)
		}
		at(t, a, "a", 0, false)
		at(t, a, "", 0, false)
		if a.Drop("a") || a.Drop("") {
			t.Errorf("%d: a key is dropped", i)
		}
		same(t, a, &model[string]{})
		a.Set("c", 3)
		a.Set("", 3)
		at(t, a, "c", 3, true)
		at(t, a, "", 3, true)
		same(t, a, &model[string]{[]scheduled[string]{{"c", 3}, {"", 3}}})
	}
}

// P20.1: ticks are limited, and now is not.
func TestLimits(t *testing.T) {
	for _, x := range []struct{ at, want int }{
		{math.MinInt, 0}, {-1 << 40, 0}, {-1, 0}, {0, 0}, {1, 1}, {1<<40 - 1, 1<<40 - 1}, {1 << 40, 1 << 40}, {1<<40 + 1, 1 << 40}, {math.MaxInt, 1 << 40},
	} {
		a := agenda.New[int]()
		a.Set(7, x.at)
		at(t, a, 7, x.want, true)
		if first, is := a.First(); first != x.want || !is {
			t.Errorf("First is %d %t, want %d", first, is, x.want)
		}
		popped(t, a, math.MinInt, 0, 0, false)
		popped(t, a, -1, 0, 0, false)
		popped(t, a, x.want-1, 0, 0, false)
		popped(t, a.Clone(), x.want, 7, x.want, true)
		popped(t, a.Clone(), x.want+1, 7, x.want, true)
		popped(t, a, math.MaxInt, 7, x.want, true)
	}
	a := agenda.New[string]()
	for i, n := range []int{5, 0, -5, math.MinInt, 1 << 40, math.MaxInt, 1<<40 - 1} { // what is limited to the same tick has that tick
		a.Set(strconv.Itoa(i), n)
	}
	if want := []string{"1", "2", "3", "0", "6", "4", "5"}; !slices.Equal(a.Keys(), want) {
		t.Errorf("Keys are %q, want %q", a.Keys(), want)
	}
}

// P20.1: keys of one tick are in the order in which they were Set, again or not, after drops and pops and in clones.
func TestSameTick(t *testing.T) {
	a := agenda.New[int]()
	for i := range 40 {
		a.Set(i, 5)
	}
	for _, k := range []int{3, 17, 0, 39} {
		a.Set(k, 5)
	}
	a.Set(8, 4)
	a.Set(9, 6)
	a.Set(9, 5)
	a.Drop(20)
	a.Set(8, 5)
	a.Set(20, 5)
	var want []int
	for i := range 40 {
		if !slices.Contains([]int{3, 17, 0, 39, 9, 8, 20}, i) {
			want = append(want, i)
		}
	}
	want = append(want, 3, 17, 0, 39, 9, 8, 20)
	if got := a.Keys(); !slices.Equal(got, want) {
		t.Fatalf("Keys are %d, want %d", got, want)
	}
	popped(t, a, 5, 1, 5, true)
	c := a.Clone()
	for _, x := range []*agenda.Agenda[int]{a, c} {
		x.Set(1, 5)
		for _, k := range append(slices.Clone(want[1:]), 1) {
			popped(t, x, 5, k, 5, true)
		}
		popped(t, x, math.MaxInt, 0, 0, false)
	}
}

// P20.1: neither of an agenda and its clone sees a change of the other one.
func TestClone(t *testing.T) {
	for _, first := range []bool{true, false} {
		a := agenda.New[string]()
		a.Set("a", 4)
		a.Set("b", 3)
		a.Set("c", 3)
		b := a.Clone()
		changed, other := a, b
		if first {
			changed, other = b, a
		}
		changed.Set("a", 1)
		changed.Drop("b")
		changed.Set("d", 0)
		changed.Pop(0)
		changed.Pop(1)
		at(t, other, "a", 4, true)
		at(t, other, "b", 3, true)
		at(t, other, "d", 0, false)
		same(t, other, &model[string]{[]scheduled[string]{{"a", 4}, {"b", 3}, {"c", 3}}})
		same(t, changed, &model[string]{[]scheduled[string]{{"c", 3}}})
	}
}

// P20.2: each key is popped once, in the order of ticks, unless it is dropped or Set again.
func TestOnce(t *testing.T) {
	rng := rand.New(rand.NewPCG(20, 2))
	for range 50 {
		a := agenda.New[int]()
		want := map[int]int{}
		for range 300 {
			k, n := rng.IntN(200), rng.IntN(1000)
			a.Set(k, n)
			want[k] = n
		}
		for range 50 {
			k := rng.IntN(200)
			if _, is := want[k]; a.Drop(k) != is {
				t.Fatalf("Drop(%d) is not %t", k, is)
			}
			delete(want, k)
		}
		last := 0
		for now := range 1000 {
			for k, n, is := a.Pop(now); is; k, n, is = a.Pop(now) {
				if n != want[k] || n < last || n != now {
					t.Fatalf("%d is popped at %d for %d, after %d", k, now, n, last)
				}
				delete(want, k)
				last = n
			}
		}
		if len(want) != 0 || a.Len() != 0 {
			t.Fatalf("%v are not popped", want)
		}
	}
}

// P20.2: a key may be Set again when it was popped, and is popped again then.
func TestAgain(t *testing.T) {
	a := agenda.New[string]()
	for i := range 20 {
		a.Set("a", i)
		popped(t, a, i, "a", i, true)
		at(t, a, "a", 0, false)
		if a.Drop("a") {
			t.Fatal("a key is dropped that was popped")
		}
		popped(t, a, math.MaxInt, "", 0, false)
	}
}

// P20.2: keys that are equal are one key, and the last one that was Set is popped.
func TestEqualKeys(t *testing.T) {
	a := agenda.New[float64]()
	a.Set(0, 5)
	a.Set(math.Copysign(0, -1), 7)
	if k, n, is := a.Pop(7); !math.Signbit(k) || k != 0 || n != 7 || !is || a.Len() != 0 {
		t.Errorf("Pop is %g %d %t", k, n, is)
	}
	one, other := 1, 1
	b := agenda.New[*int]()
	b.Set(&one, 1)
	b.Set(&other, 1)
	b.Set(&one, 2)
	if !slices.Equal(b.Keys(), []*int{&other, &one}) {
		t.Error("pointers to equal numbers are one key")
	}
}

// P20.2, P1: a NaN is equal to no key, so that each one is popped, and none is found.
func TestNaN(t *testing.T) {
	a := agenda.New[float64]()
	a.Set(math.NaN(), 3)
	a.Set(1, 2)
	a.Set(math.NaN(), 1)
	at(t, a, math.NaN(), 0, false)
	if a.Drop(math.NaN()) || a.Len() != 3 {
		t.Error("a NaN is dropped")
	}
	for _, x := range []*agenda.Agenda[float64]{a.Clone(), a} {
		for n := 1; n <= 3; n++ {
			if k, tick, is := x.Pop(n); tick != n || !is || math.IsNaN(k) != (n != 2) {
				t.Errorf("Pop(%d) is %g %d %t", n, k, tick, is)
			}
		}
		if _, is := x.First(); is || x.Len() != 0 || len(x.Keys()) != 0 {
			t.Error("a key is left")
		}
	}
}

// P20.2, P1: keys that cannot be compared make no call panic; like a NaN, each one is popped, and none is found.
func TestIncomparable(t *testing.T) {
	for _, k := range []any{[]int{1}, map[int]int{}, func() {}, struct{ a, b any }{math.NaN(), []int{1}}, [2]any{1, []int{1}}} {
		for _, a := range []*agenda.Agenda[any]{agenda.New[any](), {}} {
			if a.Drop(k) {
				t.Error("Drop is true")
			}
			at(t, a, "a", 0, false)
			a.Set(k, 3)
			a.Set("a", 2)
			a.Set(k, 1)
			if tick, is := a.At(k); tick != 0 || is || a.Drop(k) || a.Len() != 3 || len(a.Keys()) != 3 {
				t.Errorf("At is %d %t", tick, is)
			}
			a = a.Clone()
			for n := 1; n <= 3; n++ {
				got, tick, is := a.Pop(n)
				if tick != n || !is || got == nil || n == 2 && got != "a" {
					t.Errorf("Pop(%d) is %v %d %t", n, got, tick, is)
				}
			}
			if a.Len() != 0 {
				t.Errorf("Len is %d", a.Len())
			}
		}
	}
}

// Rule 5: each list of keys is new memory.
func TestMemory(t *testing.T) {
	a := agenda.New[string]()
	for _, k := range []string{"c", "a", "b"} {
		a.Set(k, 1)
	}
	for range 2 {
		keys := a.Keys()
		if !slices.Equal(keys, []string{"c", "a", "b"}) {
			t.Fatalf("Keys are %q", keys)
		}
		for i := range keys[:cap(keys)] {
			keys[:cap(keys)][i] = "other"
		}
	}
	at(t, a, "other", 0, false)
	popped(t, a, 1, "c", 1, true)
}
