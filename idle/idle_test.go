package idle_test

import (
	"cmp"
	"math"
	"math/rand/v2"
	"slices"
	"testing"

	"steward/idle"
)

const maxClock = 1 << 40

// waiting is a connection that waits.
type waiting struct {
	name     string
	conn, at int
}

// model is the connections by the words of the document, in the order in which they were put.
type model struct {
	most, life int
	l          []waiting
}

func limited(n, least, greatest int) int {
	if n < least {
		return least
	}
	if n > greatest {
		return greatest
	}
	return n
}

func newModel(most, life int) *model {
	return &model{most: limited(most, 0, 1024), life: limited(life, 1, 1<<20)}
}

func (m *model) clone() *model {
	return &model{m.most, m.life, slices.Clone(m.l)}
}

func (m *model) of(name string) []int {
	var l []int
	for _, w := range m.l {
		if w.name == name {
			l = append(l, w.conn)
		}
	}
	return l
}

func (m *model) drop(conn int) bool {
	before := len(m.l)
	m.l = slices.DeleteFunc(m.l, func(w waiting) bool { return w.conn == conn })
	return len(m.l) < before
}

func (m *model) put(name string, conn, now int) []int {
	m.drop(conn)
	at := limited(now, 0, maxClock) + m.life
	m.l = append(m.l, waiting{name, conn, min(at, maxClock)})
	var closed []int
	for len(m.of(name)) > m.most {
		oldest := m.of(name)[0]
		m.drop(oldest)
		closed = append(closed, oldest)
	}
	return closed
}

func (m *model) take(name string) (int, bool) {
	l := m.of(name)
	if len(l) == 0 {
		return 0, false
	}
	newest := l[len(l)-1]
	m.drop(newest)
	return newest, true
}

func (m *model) clear(name string) []int {
	l := m.of(name)
	for _, conn := range l {
		m.drop(conn)
	}
	return l
}

func (m *model) byTime() []waiting {
	return slices.SortedStableFunc(slices.Values(m.l), func(a, b waiting) int { return cmp.Compare(a.at, b.at) })
}

func (m *model) expire(now int) []int {
	var l []int
	for _, w := range m.byTime() {
		if w.at <= now {
			m.drop(w.conn)
			l = append(l, w.conn)
		}
	}
	return l
}

func (m *model) first() (int, bool) {
	if len(m.l) == 0 {
		return 0, false
	}
	return m.byTime()[0].at, true
}

var names = []string{"a", "b", "", "\xff a"}

// same compares all that can be asked, and checks what is promised of it.
func same(t *testing.T, i *idle.Idle, m *model) {
	t.Helper()
	if got := i.Len(); got != len(m.l) {
		t.Fatalf("Len is %d, want %d", got, len(m.l))
	}
	want, is := m.first()
	if got, has := i.First(); got != want || has != is {
		t.Fatalf("First is %d %t, want %d %t", got, has, want, is)
	}
	found := map[int]int{}
	for _, name := range names {
		got := i.Of(name)
		if !slices.Equal(got, m.of(name)) {
			t.Fatalf("Of(%q) is %v, want %v", name, got, m.of(name))
		}
		if len(got) > m.most {
			t.Fatalf("%d connections of %q wait, more than %d", len(got), name, m.most)
		}
		for _, conn := range got {
			found[conn]++
			if found[conn] > 1 {
				t.Fatalf("%d waits twice", conn)
			}
		}
	}
}

// list checks a list of connections.
func list(t *testing.T, what string, got, want []int) {
	t.Helper()
	if !slices.Equal(got, want) {
		t.Fatalf("%s is %v, want %v", what, got, want)
	}
}

// takes checks what Take returns.
func takes(t *testing.T, i *idle.Idle, name string, want int, is bool) {
	t.Helper()
	if got, has := i.Take(name); got != want || has != is {
		t.Fatalf("Take(%q) is %d %t, want %d %t", name, got, has, want, is)
	}
}

// tick returns a tick, seldom one beyond the limits.
func tick(rng *rand.Rand) int {
	if rng.IntN(10) == 0 {
		return []int{math.MinInt, -1, 0, maxClock - 2, maxClock - 1, maxClock, maxClock + 1, math.MaxInt}[rng.IntN(8)]
	}
	return rng.IntN(20)
}

// number returns the number of a connection, seldom an odd one.
func number(rng *rand.Rand) int {
	if rng.IntN(10) == 0 {
		return []int{math.MinInt, -1, math.MaxInt}[rng.IntN(3)]
	}
	return rng.IntN(12)
}

// step makes a random call and compares its result.
func step(t *testing.T, rng *rand.Rand, i *idle.Idle, m *model) {
	name, conn, now := names[rng.IntN(len(names))], number(rng), tick(rng)
	switch rng.IntN(12) {
	case 0, 1:
		want, is := m.take(name)
		takes(t, i, name, want, is)
	case 2, 3:
		if got, want := i.Drop(conn), m.drop(conn); got != want {
			t.Fatalf("Drop(%d) is %t, want %t", conn, got, want)
		}
	case 4:
		list(t, "Clear", i.Clear(name), m.clear(name))
	case 5:
		list(t, "Expire", i.Expire(now), m.expire(now))
	default:
		list(t, "Put", i.Put(name, conn, now), m.put(name, conn, now))
	}
}

// P25.1, P25.2: any calls, on two objects of which one becomes a clone of the other now and then.
func TestRandom(t *testing.T) {
	rng := rand.New(rand.NewPCG(25, 1))
	for range 300 {
		most, life := rng.IntN(5), rng.IntN(12)
		objects := []*idle.Idle{idle.New(most, life), {}}
		models := []*model{newModel(most, life), newModel(0, 0)}
		for range 200 {
			k := rng.IntN(2)
			if rng.IntN(20) == 0 {
				objects[1-k], models[1-k] = objects[k].Clone(), models[k].clone()
			}
			step(t, rng, objects[k], models[k])
			same(t, objects[0], models[0])
			same(t, objects[1], models[1])
		}
	}
}

// P25.1: the document's example.
func TestExample(t *testing.T) {
	i := idle.New(1, 9)
	list(t, "Put", i.Put("a", 5, 0), nil)
	list(t, "Put", i.Put("a", 6, 0), []int{5})
	takes(t, i, "a", 6, true)
	takes(t, i, "a", 0, false)
}

// P25.1: the limits of how many may wait, and P25.2: no backend has more.
func TestMost(t *testing.T) {
	for _, c := range []struct{ most, want int }{
		{math.MinInt, 0}, {-1, 0}, {0, 0}, {1, 1}, {2, 2}, {1023, 1023}, {1024, 1024}, {1025, 1024}, {math.MaxInt, 1024},
	} {
		i := idle.New(c.most, 5)
		for conn := range 1030 {
			var want []int
			if conn >= c.want {
				want = []int{conn - c.want}
			}
			list(t, "Put a", i.Put("a", conn, 0), want)
			list(t, "Put b", i.Put("b", -1-conn, 0), negative(want))
		}
		if i.Len() != 2*c.want || len(i.Of("a")) != c.want || len(i.Of("b")) != c.want {
			t.Errorf("%d wait with %d", i.Len(), c.most)
		}
	}
}

// negative returns -1 - n for each n.
func negative(l []int) []int {
	var out []int
	for _, n := range l {
		out = append(out, -1-n)
	}
	return out
}

// P25.1: the limits of how long they wait, and of now.
func TestLife(t *testing.T) {
	for _, c := range []struct{ life, now, want int }{
		{math.MinInt, 0, 1}, {-1, 0, 1}, {0, 0, 1}, {1, 0, 1}, {2, 0, 2},
		{1<<20 - 1, 0, 1<<20 - 1}, {1 << 20, 0, 1 << 20}, {1<<20 + 1, 0, 1 << 20}, {math.MaxInt, 0, 1 << 20},
		{5, math.MinInt, 5}, {5, -1, 5}, {5, 1, 6},
		{5, maxClock - 6, maxClock - 1}, {5, maxClock - 5, maxClock}, {5, maxClock - 4, maxClock},
		{5, maxClock, maxClock}, {5, maxClock + 1, maxClock}, {5, math.MaxInt, maxClock}, {math.MaxInt, math.MaxInt, maxClock},
	} {
		i := idle.New(1, c.life)
		i.Put("a", 3, c.now)
		if at, is := i.First(); at != c.want || !is {
			t.Errorf("life %d, now %d: First is %d %t, want %d", c.life, c.now, at, is, c.want)
		}
		list(t, "Expire before", i.Expire(c.want-1), nil)
		list(t, "Expire", i.Expire(c.want), []int{3})
		if at, is := i.First(); at != 0 || is || i.Len() != 0 {
			t.Errorf("life %d, now %d: something waits until %d", c.life, c.now, at)
		}
	}
}

// P25.1: no tick before the first time removes any, and any later one removes all.
func TestExpireLimits(t *testing.T) {
	for _, c := range []struct {
		now  int
		want []int
	}{
		{math.MinInt, nil}, {-1, nil}, {0, nil}, {4, nil}, {5, []int{1}}, {maxClock - 1, []int{1}},
		{maxClock, []int{1, 2}}, {maxClock + 1, []int{1, 2}}, {math.MaxInt, []int{1, 2}},
	} {
		i := idle.New(2, 5)
		i.Put("a", 2, maxClock)
		i.Put("a", 1, 0)
		list(t, "Expire", i.Expire(c.now), c.want)
		if i.Len() != 2-len(c.want) || len(i.Of("a")) != 2-len(c.want) {
			t.Errorf("after Expire(%d), %d wait", c.now, i.Len())
		}
	}
}

// P25.1: connections expire in the order of their times, for equal ones in the order in which they were put, whatever the backends and the numbers.
func TestExpireOrder(t *testing.T) {
	i := idle.New(9, 10)
	i.Put("a", 9, 3)
	i.Put("b", 8, 1)
	i.Put("a", 7, 3)
	i.Put("c", 1, 3)
	i.Put("b", 6, 0)
	i.Put("a", 2, 1)
	i.Put("a", 9, 3) // again, and so after the others of its time
	list(t, "Expire", i.Expire(13), []int{6, 8, 2, 7, 1, 9})
	i.Put("a", 5, maxClock)
	i.Put("a", 4, maxClock-1)
	i.Put("b", 3, maxClock-10)
	list(t, "Expire at the end", i.Expire(maxClock), []int{5, 4, 3})
}

// P25.1: the oldest and the newest connection are the first and the last one that was put, even if the clock goes back.
func TestAge(t *testing.T) {
	i := idle.New(2, 10)
	i.Put("a", 1, 50)
	i.Put("a", 2, 20)
	list(t, "Put", i.Put("a", 3, 30), []int{1})
	list(t, "Of", i.Of("a"), []int{2, 3})
	i.Put("a", 4, 0)
	takes(t, i, "a", 4, true)
	takes(t, i, "a", 3, true)
	takes(t, i, "a", 0, false)
}

// P25.2: a number that is put again waits only where and until when it was put last.
func TestPutAgain(t *testing.T) {
	i := idle.New(2, 10)
	i.Put("a", 1, 0)
	i.Put("a", 2, 1)
	list(t, "Put of the same backend", i.Put("a", 1, 5), nil)
	list(t, "Of", i.Of("a"), []int{2, 1})
	if at, _ := i.First(); at != 11 {
		t.Errorf("First is %d", at)
	}
	list(t, "Put of another backend", i.Put("b", 1, 6), nil)
	list(t, "Of a", i.Of("a"), []int{2})
	list(t, "Of b", i.Of("b"), []int{1})
	list(t, "Put to an earlier time", i.Put("b", 1, 0), nil)
	if at, _ := i.First(); at != 10 || i.Len() != 2 {
		t.Errorf("First is %d of %d", at, i.Len())
	}
	if !i.Drop(1) || i.Drop(1) || i.Len() != 1 || len(i.Of("b")) != 0 {
		t.Error("1 waits still")
	}
	list(t, "Expire", i.Expire(100), []int{2})
}

// P25.2: a number that waits for one backend is removed there, and not returned, even if another one is full.
func TestPutElsewhere(t *testing.T) {
	i := idle.New(1, 10)
	i.Put("a", 1, 0)
	i.Put("b", 2, 0)
	list(t, "Put", i.Put("b", 1, 0), []int{2})
	list(t, "Of a", i.Of("a"), nil)
	list(t, "Of b", i.Of("b"), []int{1})
	list(t, "Expire", i.Expire(10), []int{1})
}

// P25.1: an Idle without connections, new, cloned, zero or emptied.
func TestEmpty(t *testing.T) {
	emptied, expired, dropped := idle.New(0, 1), idle.New(1, 1), idle.New(1, 1)
	emptied.Put("a", 1, 0)
	expired.Put("a", 1, 0)
	expired.Expire(1)
	dropped.Put("a", 1, 0)
	dropped.Drop(1)
	for _, i := range []*idle.Idle{idle.New(0, 0), {}, idle.New(0, 0).Clone(), (&idle.Idle{}).Clone(), emptied, emptied.Clone(), expired, dropped} {
		same(t, i, newModel(0, 1))
		takes(t, i, "a", 0, false)
		list(t, "Clear", i.Clear("a"), nil)
		list(t, "Expire", i.Expire(math.MaxInt), nil)
		if i.Drop(1) || i.Drop(0) {
			t.Error("Drop is true")
		}
	}
	zero := &idle.Idle{}
	list(t, "Put of a zero Idle", zero.Put("a", 7, 3), []int{7})
	same(t, zero, newModel(0, 1))
}

// P25.1: a clone and its original do not change each other.
func TestClone(t *testing.T) {
	i := idle.New(3, 10)
	for conn := range 3 {
		i.Put("a", conn, conn)
	}
	c := i.Clone()
	i.Drop(0)
	i.Put("a", 9, 0)
	list(t, "Of the clone", c.Of("a"), []int{0, 1, 2})
	list(t, "Put to the clone", c.Put("a", 8, 5), []int{0})
	list(t, "Of the original", i.Of("a"), []int{1, 2, 9})
	list(t, "Expire of the original", i.Expire(math.MaxInt), []int{9, 1, 2})
	list(t, "Expire of the clone", c.Expire(math.MaxInt), []int{1, 2, 8})
}

// Rule 5: lists that are returned are new memory.
func TestMemory(t *testing.T) {
	build := func() (*idle.Idle, *model) {
		i, m := idle.New(2, 10), newModel(2, 10)
		for conn := range 4 {
			i.Put("a", conn, 0)
			i.Put("b", 10+conn, 0)
			m.put("a", conn, 0)
			m.put("b", 10+conn, 0)
		}
		return i, m
	}
	for k, call := range []func(i *idle.Idle, m *model) []int{
		func(i *idle.Idle, m *model) []int { return i.Of("a") },
		func(i *idle.Idle, m *model) []int { m.put("a", 9, 0); return i.Put("a", 9, 0) },
		func(i *idle.Idle, m *model) []int { m.clear("a"); return i.Clear("a") },
		func(i *idle.Idle, m *model) []int { m.expire(10); return i.Expire(10) },
	} {
		i, m := build()
		l := call(i, m)
		if len(l) == 0 {
			t.Errorf("call %d returned nothing", k)
		}
		clear(l[:cap(l)])
		same(t, i, m)
		list(t, "Put", i.Put("a", 20, 1), m.put("a", 20, 1))
		same(t, i, m)
	}
}
