package pool_test

import (
	"math"
	"math/rand/v2"
	"slices"
	"strconv"
	"strings"
	"testing"

	"steward/api"
	"steward/pool"
)

// model is a pool by the words of the document: the backends in the order in which they were added.
type model struct {
	l []pool.Backend
}

func (m *model) clone() *model {
	return &model{slices.Clone(m.l)}
}

func (m *model) find(name string) int {
	return slices.IndexFunc(m.l, func(b pool.Backend) bool { return b.Name == name })
}

// named reports whether a name is valid.
func named(s string) bool {
	if len(s) < 1 || len(s) > 32 || s[0] < 'a' || s[0] > 'z' {
		return false
	}
	return strings.Trim(s, "abcdefghijklmnopqrstuvwxyz0123456789-") == ""
}

func (m *model) add(name string, weight, most int) api.Errno {
	if !named(name) || weight < 1 || weight > 65535 || most < 1 || most > 65535 {
		return api.ErrArg
	}
	if m.find(name) >= 0 {
		return api.ErrThere
	}
	if len(m.l) == 1024 {
		return api.ErrFull
	}
	m.l = append(m.l, pool.Backend{Name: name, Weight: weight, Cap: most})
	return api.OK
}

// command returns the index of a backend that may be changed by commands, or -1.
func (m *model) command(name string) int {
	i := m.find(name)
	if i >= 0 && m.l[i].State == 2 {
		return -1
	}
	return i
}

func (m *model) reweight(name string, weight int) api.Errno {
	i := m.command(name)
	if i < 0 {
		return api.ErrNone
	}
	if weight < 1 || weight > 65535 {
		return api.ErrArg
	}
	m.l[i].Weight = weight
	return api.OK
}

func (m *model) turn(name string, state int) api.Errno {
	i := m.command(name)
	if i < 0 {
		return api.ErrNone
	}
	m.l[i].State = state
	m.sweep()
	return api.OK
}

func (m *model) sweep() {
	m.l = slices.DeleteFunc(m.l, func(b pool.Backend) bool { return b.State == 2 && b.Busy == 0 })
}

func (m *model) take(name string) api.Errno {
	i := m.find(name)
	if i < 0 {
		return api.ErrNone
	}
	b := &m.l[i]
	if b.State != 0 {
		return api.ErrState
	}
	if b.Busy == b.Cap {
		return api.ErrFull
	}
	b.Busy++
	return api.OK
}

func (m *model) give(name string) (bool, api.Errno) {
	i := m.find(name)
	if i < 0 {
		return false, api.ErrNone
	}
	b := &m.l[i]
	if b.Busy == 0 {
		return false, api.ErrState
	}
	b.Busy--
	drained := b.State != 0 && b.Busy == 0
	m.sweep()
	return drained, api.OK
}

// names are those of the backends, some of them invalid.
var names = []string{"b", "a", "c", "a-1", "zz", "", "A", "a_", "1a", "d" + strings.Repeat("0", 31), "d" + strings.Repeat("0", 32)}

// same compares all that can be asked.
func same(t *testing.T, p *pool.Pool, m *model) {
	t.Helper()
	if got := p.List(); !slices.Equal(got, m.l) {
		t.Fatalf("List is %+v, want %+v", got, m.l)
	}
	busy := 0
	for _, b := range m.l {
		busy += b.Busy
	}
	if got := p.Busy(); got != busy {
		t.Fatalf("Busy is %d, want %d", got, busy)
	}
	for _, name := range names {
		i := m.find(name)
		var want pool.Backend
		if i >= 0 {
			want = m.l[i]
		}
		if got, is := p.Get(name); got != want || is != (i >= 0) {
			t.Fatalf("Get(%q) is %+v %t, want %+v", name, got, is, want)
		}
		if got := p.Drained(name); got != (i >= 0 && want.State == 1 && want.Busy == 0) {
			t.Fatalf("Drained(%q) is %t of %+v", name, got, want)
		}
	}
}

// is checks an error.
func is(t *testing.T, what string, got, want api.Errno) {
	t.Helper()
	if got != want {
		t.Fatalf("%s is %d, want %d", what, got, want)
	}
}

// gives checks what Give returns.
func gives(t *testing.T, p *pool.Pool, name string, drained bool, e api.Errno) {
	t.Helper()
	if got, errno := p.Give(name); got != drained || errno != e {
		t.Fatalf("Give(%q) is %t %d, want %t %d", name, got, errno, drained, e)
	}
}

// number returns a weight or a cap, seldom an invalid one.
func number(rng *rand.Rand) int {
	if rng.IntN(10) == 0 {
		return []int{math.MinInt, -1, 0, 65535, 65536, math.MaxInt}[rng.IntN(6)]
	}
	return 1 + rng.IntN(3)
}

// step makes a random call and compares its result.
func step(t *testing.T, rng *rand.Rand, p *pool.Pool, m *model) {
	name := names[rng.IntN(len(names))]
	if rng.IntN(3) > 0 {
		name = names[rng.IntN(3)]
	}
	switch rng.IntN(16) {
	case 0, 1:
		weight, most := number(rng), number(rng)
		is(t, "Add", p.Add(name, weight, most), m.add(name, weight, most))
	case 2:
		weight := number(rng)
		is(t, "Reweight", p.Reweight(name, weight), m.reweight(name, weight))
	case 3:
		is(t, "Drain", p.Drain(name), m.turn(name, 1))
	case 4:
		is(t, "Undrain", p.Undrain(name), m.turn(name, 0))
	case 5:
		is(t, "Remove", p.Remove(name), m.turn(name, 2))
	case 6, 7, 8, 9, 10:
		is(t, "Take", p.Take(name), m.take(name))
	default:
		drained, e := m.give(name)
		gives(t, p, name, drained, e)
	}
}

// P24.1: any calls, on two pools of which one becomes a clone of the other now and then.
func TestRandom(t *testing.T) {
	rng := rand.New(rand.NewPCG(24, 1))
	for range 300 {
		pools := []*pool.Pool{pool.New(), {}}
		models := []*model{{}, {}}
		for range 300 {
			i := rng.IntN(2)
			if rng.IntN(20) == 0 {
				pools[1-i], models[1-i] = pools[i].Clone(), models[i].clone()
			}
			step(t, rng, pools[i], models[i])
			same(t, pools[0], models[0])
			same(t, pools[1], models[1])
		}
	}
}

// P24.1: the document's example.
func TestExample(t *testing.T) {
	p := pool.New()
	is(t, "Add", p.Add("a", 1, 5), api.OK)
	is(t, "Take", p.Take("a"), api.OK)
	is(t, "Drain", p.Drain("a"), api.OK)
	is(t, "Take", p.Take("a"), api.ErrState)
	gives(t, p, "a", true, api.OK)
}

// P24.1: the numbers of the states.
func TestStates(t *testing.T) {
	if pool.Active != 0 || pool.Draining != 1 || pool.Gone != 2 {
		t.Error("wrong numbers")
	}
}

// P24.1: a pool without backends, new, cloned, zero or emptied.
func TestEmpty(t *testing.T) {
	emptied := pool.New()
	emptied.Add("a", 1, 1)
	emptied.Remove("a")
	for _, p := range []*pool.Pool{pool.New(), {}, pool.New().Clone(), (&pool.Pool{}).Clone(), emptied, emptied.Clone()} {
		for _, name := range names {
			is(t, "Reweight", p.Reweight(name, 1), api.ErrNone)
			is(t, "Reweight to 0", p.Reweight(name, 0), api.ErrNone)
			is(t, "Drain", p.Drain(name), api.ErrNone)
			is(t, "Undrain", p.Undrain(name), api.ErrNone)
			is(t, "Remove", p.Remove(name), api.ErrNone)
			is(t, "Take", p.Take(name), api.ErrNone)
			gives(t, p, name, false, api.ErrNone)
		}
		same(t, p, &model{})
		is(t, "Add", p.Add("a", 1, 1), api.OK)
		same(t, p, &model{[]pool.Backend{{Name: "a", Weight: 1, Cap: 1}}})
	}
}

// P24.1: names, weights and caps at their limits and beyond them.
func TestArguments(t *testing.T) {
	p := pool.New()
	for _, n := range []int{math.MinInt, -65535, -1, 0, 65536, 65537, math.MaxInt} {
		is(t, "Add with a weight", p.Add("a", n, 1), api.ErrArg)
		is(t, "Add with a cap", p.Add("a", 1, n), api.ErrArg)
	}
	for _, name := range []string{"", "A", "1", "-", "-a", "a.", "a b", "aB", "a\x00", "\xff", "é", strings.Repeat("a", 33)} {
		is(t, "Add "+name, p.Add(name, 1, 1), api.ErrArg)
	}
	same(t, p, &model{})
	want := &model{}
	for i, name := range []string{"z", "a", "a-", "a9", strings.Repeat("a", 32)} {
		weight, most := []int{1, 65535}[i%2], []int{65535, 1}[i%2]
		is(t, "Add "+name, p.Add(name, weight, most), api.OK)
		want.l = append(want.l, pool.Backend{Name: name, Weight: weight, Cap: most})
	}
	same(t, p, want)
	for _, n := range []int{math.MinInt, -1, 0, 65536, math.MaxInt} {
		is(t, "Reweight", p.Reweight("z", n), api.ErrArg)
	}
	same(t, p, want)
	for _, n := range []int{65535, 1, 2} {
		is(t, "Reweight", p.Reweight("z", n), api.OK)
		want.l[0].Weight = n
		same(t, p, want)
	}
}

// P24.1: of several errors the first one is returned.
func TestErrors(t *testing.T) {
	p := full(t)
	is(t, "Add, full and with an invalid weight", p.Add("x", 0, 1), api.ErrArg)
	is(t, "Add, there and with an invalid cap", p.Add("b0", 1, 0), api.ErrArg)
	is(t, "Add, there and full", p.Add("b0", 1, 1), api.ErrThere)
	is(t, "Add, full", p.Add("x", 1, 1), api.ErrFull)
	is(t, "Take", p.Take("b0"), api.OK)
	is(t, "Take, full", p.Take("b0"), api.ErrFull)
	is(t, "Drain", p.Drain("b0"), api.OK)
	is(t, "Take, draining and full", p.Take("b0"), api.ErrState)
	is(t, "Remove", p.Remove("b0"), api.OK)
	is(t, "Take, gone and full", p.Take("b0"), api.ErrState)
	is(t, "Reweight, gone and with an invalid weight", p.Reweight("b0", 0), api.ErrNone)
}

// full returns a pool of MaxBackends backends.
func full(t *testing.T) *pool.Pool {
	p := pool.New()
	for i := range api.MaxBackends {
		is(t, "Add", p.Add("b"+strconv.Itoa(i), 1, 1), api.OK)
	}
	return p
}

// P24.1: at most MaxBackends backends, those too that are Gone and have requests.
func TestFull(t *testing.T) {
	p := full(t)
	is(t, "Add", p.Add("x", 1, 1), api.ErrFull)
	is(t, "Take", p.Take("b7"), api.OK)
	is(t, "Remove", p.Remove("b7"), api.OK)
	is(t, "Add", p.Add("x", 1, 1), api.ErrFull)
	if l := p.List(); len(l) != 1024 || l[7] != (pool.Backend{Name: "b7", Weight: 1, Cap: 1, State: pool.Gone, Busy: 1}) || l[1023].Name != "b1023" {
		t.Errorf("%d backends", len(l))
	}
	gives(t, p, "b7", true, api.OK)
	is(t, "Add", p.Add("x", 1, 1), api.OK)
	is(t, "Add", p.Add("y", 1, 1), api.ErrFull)
	if l := p.List(); len(l) != 1024 || l[7].Name != "b8" || l[1023].Name != "x" {
		t.Errorf("%d backends", len(l))
	}
}

// P24.1: a backend that is Gone remains until its last request is given, unchanged by any command, and may then be added anew as the last one.
func TestGone(t *testing.T) {
	p := pool.New()
	is(t, "Add", p.Add("a", 3, 2), api.OK)
	is(t, "Add", p.Add("b", 1, 1), api.OK)
	p.Take("a")
	p.Take("a")
	is(t, "Drain", p.Drain("a"), api.OK)
	is(t, "Remove", p.Remove("a"), api.OK)
	gone := pool.Backend{Name: "a", Weight: 3, Cap: 2, State: pool.Gone, Busy: 2}
	for _, e := range []api.Errno{p.Reweight("a", 5), p.Drain("a"), p.Undrain("a"), p.Remove("a")} {
		is(t, "a command", e, api.ErrNone)
	}
	is(t, "Add", p.Add("a", 1, 1), api.ErrThere)
	if got, there := p.Get("a"); got != gone || !there || p.Drained("a") || p.Busy() != 2 {
		t.Errorf("it is %+v %t", got, there)
	}
	gives(t, p, "a", false, api.OK)
	gives(t, p, "a", true, api.OK)
	gives(t, p, "a", false, api.ErrNone)
	is(t, "Take", p.Take("a"), api.ErrNone)
	is(t, "Add", p.Add("a", 1, 1), api.OK)
	if got := p.List(); !slices.Equal(got, []pool.Backend{{Name: "b", Weight: 1, Cap: 1}, {Name: "a", Weight: 1, Cap: 1}}) {
		t.Errorf("List is %+v", got)
	}
}

// P24.2: the number of requests is that of those taken minus that of those given, between 0 and the Cap.
func TestCounts(t *testing.T) {
	rng := rand.New(rand.NewPCG(24, 2))
	for range 200 {
		p := pool.New()
		taken := map[string]int{}
		for range 300 {
			name := names[rng.IntN(4)]
			switch rng.IntN(12) {
			case 0, 1:
				p.Add(name, 1, 1+rng.IntN(4))
			case 2:
				p.Drain(name)
			case 3:
				p.Undrain(name)
			case 4:
				if rng.IntN(3) == 0 {
					p.Remove(name)
				}
			case 5, 6, 7, 8:
				if p.Take(name) == api.OK {
					taken[name]++
				}
			default:
				if _, e := p.Give(name); e == api.OK {
					taken[name]--
				}
			}
			total := 0
			for _, other := range names {
				b, _ := p.Get(other)
				if b.Busy != taken[other] || b.Busy < 0 || b.Busy > b.Cap {
					t.Fatalf("%+v, but %d requests", b, taken[other])
				}
				total += b.Busy
			}
			if p.Busy() != total {
				t.Fatalf("Busy is %d, want %d", p.Busy(), total)
			}
		}
	}
}

// P24.2: a Cap at its limit can be used up, and no more.
func TestCap(t *testing.T) {
	p := pool.New()
	is(t, "Add", p.Add("a", 1, 65535), api.OK)
	for range 65535 {
		is(t, "Take", p.Take("a"), api.OK)
	}
	is(t, "Take", p.Take("a"), api.ErrFull)
	for range 65535 {
		gives(t, p, "a", false, api.OK)
	}
	gives(t, p, "a", false, api.ErrState)
}

// P24.3: after a Drain no request is taken, those that there are remain until they are given, and an Undrain ends it.
func TestDrain(t *testing.T) {
	p := pool.New()
	is(t, "Add", p.Add("a", 1, 3), api.OK)
	p.Take("a")
	p.Take("a")
	is(t, "Drain", p.Drain("a"), api.OK)
	for _, b := range []int{2, 1} {
		is(t, "Take", p.Take("a"), api.ErrState)
		is(t, "Drain again", p.Drain("a"), api.OK)
		if got, _ := p.Get("a"); got != (pool.Backend{Name: "a", Weight: 1, Cap: 3, State: pool.Draining, Busy: b}) || p.Drained("a") {
			t.Errorf("it is %+v", got)
		}
		gives(t, p, "a", b == 1, api.OK)
	}
	if !p.Drained("a") {
		t.Error("it is not drained")
	}
	is(t, "Take", p.Take("a"), api.ErrState)
	gives(t, p, "a", false, api.ErrState)
	is(t, "Reweight", p.Reweight("a", 4), api.OK)
	is(t, "Take", p.Take("a"), api.ErrState)
	is(t, "Undrain", p.Undrain("a"), api.OK)
	is(t, "Undrain again", p.Undrain("a"), api.OK)
	is(t, "Take", p.Take("a"), api.OK)
	if p.Drained("a") {
		t.Error("it is drained")
	}
	gives(t, p, "a", false, api.OK)
	if got, there := p.Get("a"); got != (pool.Backend{Name: "a", Weight: 4, Cap: 3}) || !there {
		t.Errorf("it is %+v", got)
	}
}

// Rule 5: a List is new memory, and a clone is independent.
func TestMemory(t *testing.T) {
	p := pool.New()
	for _, name := range []string{"c", "a", "b"} {
		is(t, "Add", p.Add(name, 1, 1), api.OK)
	}
	c, l := p.Clone(), p.List()
	clear(l[:cap(l)])
	p.Remove("a")
	p.Take("b")
	c.Drain("c")
	c.Add("d", 2, 2)
	p.Add("e", 3, 3)
	if got := p.List(); !slices.Equal(got, []pool.Backend{{Name: "c", Weight: 1, Cap: 1}, {Name: "b", Weight: 1, Cap: 1, Busy: 1}, {Name: "e", Weight: 3, Cap: 3}}) {
		t.Errorf("List is %+v", got)
	}
	want := []pool.Backend{{Name: "c", Weight: 1, Cap: 1, State: pool.Draining}, {Name: "a", Weight: 1, Cap: 1}, {Name: "b", Weight: 1, Cap: 1}, {Name: "d", Weight: 2, Cap: 2}}
	if got := c.List(); !slices.Equal(got, want) {
		t.Errorf("the clone's List is %+v", got)
	}
}
