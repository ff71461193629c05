package health_test

import (
	"math"
	"math/rand/v2"
	"slices"
	"strings"
	"testing"

	"steward/api"
	"steward/health"
	"steward/probe"
)

// action is what is scheduled for a backend: that a probe is asked for, or that it is late.
type action struct {
	name string
	at   int
	late bool
}

// model is a Health by the words of the document: the actions are in the order in which they were scheduled.
type model struct {
	every, wait int
	config      probe.Config
	probes      map[string]probe.Probe
	waits       map[string]bool
	actions     []action
	epoch       int
}

func newModel(c probe.Config) *model {
	return &model{
		every: min(max(c.Every, 1), 1<<20), wait: min(max(c.Wait, 1), 1<<20), config: c,
		probes: map[string]probe.Probe{}, waits: map[string]bool{},
	}
}

func (m *model) clone() *model {
	c := newModel(m.config)
	for name, p := range m.probes {
		c.probes[name] = p
	}
	for name := range m.waits {
		c.waits[name] = true
	}
	c.actions, c.epoch = slices.Clone(m.actions), m.epoch
	return c
}

// clock limits a tick.
func clock(now int) int {
	if now < 0 {
		return 0
	}
	if now > 1<<40 {
		return 1 << 40
	}
	return now
}

func (m *model) unschedule(name string) {
	m.actions = slices.DeleteFunc(m.actions, func(a action) bool { return a.name == name })
}

func (m *model) schedule(a action) {
	m.unschedule(a.name)
	if a.at <= 1<<40 {
		m.actions = append(m.actions, a)
	}
}

func (m *model) add(name string, up bool, now int) bool {
	if _, is := m.probes[name]; is {
		return false
	}
	m.probes[name] = probe.New(up, clock(now))
	m.schedule(action{name: name, at: clock(now) + m.every})
	m.epoch++
	return true
}

func (m *model) remove(name string) bool {
	if _, is := m.probes[name]; !is {
		return false
	}
	delete(m.probes, name)
	delete(m.waits, name)
	m.unschedule(name)
	m.epoch++
	return true
}

// next returns the action that is due first: of those with the same tick, the one that was scheduled first.
func (m *model) next() (action, bool) {
	if len(m.actions) == 0 {
		return action{}, false
	}
	first := m.actions[0]
	for _, a := range m.actions {
		if a.at < first.at {
			first = a
		}
	}
	return first, true
}

func (m *model) first() (int, bool) {
	a, is := m.next()
	return a.at, is
}

func (m *model) processed(name string, good bool, now int) []health.Event {
	p, changed := m.probes[name].Result(m.config, good, now)
	m.probes[name] = p
	delete(m.waits, name)
	m.schedule(action{name: name, at: now + m.every})
	if !changed {
		return nil
	}
	m.epoch++
	if good {
		return []health.Event{{Kind: 3, Name: name, At: now}}
	}
	return []health.Event{{Kind: 4, Name: name, At: now}}
}

func (m *model) run(now int) []health.Event {
	var l []health.Event
	for {
		a, is := m.next()
		if !is || a.at > now {
			return l
		}
		m.unschedule(a.name)
		if a.late {
			l = append(l, health.Event{Kind: 2, Name: a.name, At: a.at})
			l = append(l, m.processed(a.name, false, a.at)...)
			continue
		}
		l = append(l, health.Event{Kind: 1, Name: a.name, At: a.at})
		m.waits[a.name] = true
		m.schedule(action{name: a.name, at: a.at + m.wait, late: true})
	}
}

func (m *model) result(name string, good bool, now int) ([]health.Event, api.Errno) {
	if _, is := m.probes[name]; !is {
		return nil, api.ErrNone
	}
	if !m.waits[name] {
		return nil, api.ErrState
	}
	return m.processed(name, good, clock(now)), api.OK
}

func (m *model) views() []health.View {
	var l []health.View
	for name, p := range m.probes {
		l = append(l, health.View{Name: name, Up: p.Up, Since: p.Since})
	}
	slices.SortFunc(l, func(a, b health.View) int { return strings.Compare(a.Name, b.Name) })
	return l
}

// names are those of the backends, in no order: any string is one.
var names = []string{"b", "", "a", "aa", "\xff\x00", "B", "a ", "c"}

// same compares all that can be asked.
func same(t *testing.T, h *health.Health, m *model) {
	t.Helper()
	views := m.views()
	if got := h.Views(); !slices.Equal(got, views) {
		t.Fatalf("Views are %v, want %v", got, views)
	}
	if got := h.Epoch(); got != m.epoch {
		t.Fatalf("Epoch is %d, want %d", got, m.epoch)
	}
	at, is := h.First()
	if n, want := m.first(); at != n || is != want {
		t.Fatalf("First is %d %t, want %d %t", at, is, n, want)
	}
	for _, name := range names {
		if got := h.Waits(name); got != m.waits[name] {
			t.Fatalf("Waits(%q) is %t", name, got)
		}
		var want health.View
		i := slices.IndexFunc(views, func(v health.View) bool { return v.Name == name })
		if i >= 0 {
			want = views[i]
		}
		if got, is := h.Up(name); got != want || is != (i >= 0) {
			t.Fatalf("Up(%q) is %v %t, want %v", name, got, is, want)
		}
	}
}

// added checks what Add returns.
func added(t *testing.T, h *health.Health, name string, up bool, now int, want bool) {
	t.Helper()
	if h.Add(name, up, now) != want {
		t.Fatalf("Add(%q, %t, %d) is not %t", name, up, now, want)
	}
}

// happens checks what Run returns.
func happens(t *testing.T, h *health.Health, now int, want ...health.Event) {
	t.Helper()
	if got := h.Run(now); !slices.Equal(got, want) {
		t.Fatalf("Run(%d) is %v, want %v", now, got, want)
	}
}

// results checks what Result returns.
func results(t *testing.T, h *health.Health, name string, good bool, now int, e api.Errno, want ...health.Event) {
	t.Helper()
	if got, errno := h.Result(name, good, now); !slices.Equal(got, want) || errno != e {
		t.Fatalf("Result(%q, %t, %d) is %v %d, want %v %d", name, good, now, got, errno, want, e)
	}
}

// first checks what First returns.
func first(t *testing.T, h *health.Health, at int, is bool) {
	t.Helper()
	if n, got := h.First(); n != at || got != is {
		t.Fatalf("First is %d %t, want %d %t", n, got, at, is)
	}
}

func asked(name string, at int) health.Event {
	return health.Event{Kind: health.Asked, Name: name, At: at}
}
func late(name string, at int) health.Event {
	return health.Event{Kind: health.Late, Name: name, At: at}
}
func up(name string, at int) health.Event { return health.Event{Kind: health.Up, Name: name, At: at} }
func down(name string, at int) health.Event {
	return health.Event{Kind: health.Down, Name: name, At: at}
}

// span returns numbers of ticks or results, also beyond their limits.
func span(rng *rand.Rand) int {
	if rng.IntN(8) == 0 {
		return []int{math.MinInt, -1, 0, 1 << 20, 1<<20 + 1, math.MaxInt}[rng.IntN(6)]
	}
	return 1 + rng.IntN(4)
}

// P23.1: any calls at times that pass, or seldom do not, on two Healths of which one becomes a clone of the other now and then.
func TestRandom(t *testing.T) {
	rng := rand.New(rand.NewPCG(23, 1))
	for range 400 {
		c := probe.Config{Every: span(rng), Wait: span(rng), Rise: span(rng), Fall: span(rng)}
		healths := []*health.Health{health.New(c), health.New(c)}
		models := []*model{newModel(c), newModel(c)}
		now := rng.IntN(3)
		for range 150 {
			now += rng.IntN(4)
			at := now + (rng.IntN(20)-16)*(rng.IntN(20)/19)
			i := rng.IntN(2)
			h, m, name := healths[i], models[i], names[rng.IntN(len(names))]
			switch rng.IntN(14) {
			case 0, 1:
				up := rng.IntN(2) > 0
				added(t, h, name, up, at, m.add(name, up, at))
			case 2:
				if got := h.Remove(name); got != m.remove(name) {
					t.Fatalf("Remove(%q) is %t", name, got)
				}
			case 3:
				healths[1-i], models[1-i] = h.Clone(), m.clone()
			case 4, 5, 6, 7, 8:
				good := rng.IntN(2) > 0
				want, e := m.result(name, good, at)
				results(t, h, name, good, at, e, want...)
			default:
				happens(t, h, at, m.run(at)...)
			}
			same(t, healths[0], models[0])
			same(t, healths[1], models[1])
		}
	}
}

// P23.1: times of all sizes. Those of Run are not far from the actions, or there would be too many events.
func TestTimes(t *testing.T) {
	times := []int{math.MinInt, -1 << 40, -1, 0, 1, 1 << 39, 1<<40 - 8, 1<<40 - 2, 1<<40 - 1, 1 << 40, 1<<40 + 1, 1 << 41, math.MaxInt - 1, math.MaxInt}
	for _, c := range []probe.Config{{Every: 1, Wait: 1, Rise: 1, Fall: 1}, {Every: 3, Wait: 2, Rise: 1, Fall: 2}, {Every: 2, Wait: 7, Rise: 2, Fall: 1}, {Every: 1 << 20, Wait: 1 << 20}} {
		for _, since := range times {
			for _, now := range times {
				h, m := health.New(c), newModel(c)
				added(t, h, "a", true, since, m.add("a", true, since))
				added(t, h, "b", false, now, m.add("b", false, now))
				same(t, h, m)
				for range 6 {
					at, _ := m.first()
					happens(t, h, at-1, m.run(at-1)...)
					happens(t, h, at, m.run(at)...)
					same(t, h, m)
				}
				for _, name := range names {
					want, e := m.result(name, name == "b", now)
					results(t, h, name, name == "b", now, e, want...)
					same(t, h, m)
				}
				if at, is := m.first(); !is || at >= 1<<40-100 {
					happens(t, h, math.MaxInt, m.run(math.MaxInt)...)
				}
				happens(t, h, -1, m.run(-1)...)
				happens(t, h, math.MinInt, m.run(math.MinInt)...)
				same(t, h, m)
			}
		}
	}
}

// P23.1: the document's example.
func TestExample(t *testing.T) {
	h := health.New(probe.Config{Every: 5, Wait: 2, Fall: 1})
	added(t, h, "a", true, 0, true)
	happens(t, h, 7, asked("a", 5), late("a", 7), down("a", 7))
}

// P23.1: the numbers of the kinds.
func TestKinds(t *testing.T) {
	if health.Asked != 1 || health.Late != 2 || health.Up != 3 || health.Down != 4 {
		t.Error("wrong numbers")
	}
}

// P23.1: the configuration is limited as in Clip.
func TestLimits(t *testing.T) {
	for _, x := range []struct{ n, ticks, most int }{
		{math.MinInt, 1, 1}, {-1, 1, 1}, {0, 1, 1}, {1, 1, 1}, {2, 2, 2}, {1000, 1000, 1000}, {1001, 1001, 1000},
		{1 << 20, 1 << 20, 1000}, {1<<20 + 1, 1 << 20, 1000}, {math.MaxInt, 1 << 20, 1000},
	} {
		h := health.New(probe.Config{Every: x.n, Wait: x.n, Rise: x.n, Fall: x.n})
		added(t, h, "a", false, 0, true)
		first(t, h, x.ticks, true)
		happens(t, h, x.ticks-1)
		happens(t, h, x.ticks, asked("a", x.ticks))
		first(t, h, 2*x.ticks, true)
		h.Remove("a")
		for _, from := range []bool{false, true} {
			added(t, h, "a", from, 0, true)
			for n := 1; n < x.most; n++ {
				h.Run(x.ticks)
				results(t, h, "a", !from, 0, api.OK)
			}
			h.Run(x.ticks)
			kind := health.Up
			if from {
				kind = health.Down
			}
			results(t, h, "a", !from, 0, api.OK, health.Event{Kind: kind, Name: "a"})
			h.Remove("a")
		}
	}
}

// P23.1: a Health without backends, new, cloned, zero or emptied, and what is then added.
func TestEmpty(t *testing.T) {
	emptied := health.New(probe.Config{})
	added(t, emptied, "a", true, 3, true)
	emptied.Run(4)
	emptied.Remove("a")
	for i, h := range []*health.Health{health.New(probe.Config{}), {}, health.New(probe.Config{}).Clone(), (&health.Health{}).Clone(), emptied, emptied.Clone()} {
		epoch := 0
		if i > 3 {
			epoch = 2
		}
		m := newModel(probe.Config{})
		m.epoch = epoch
		same(t, h, m)
		for _, now := range []int{math.MinInt, -1, 0, 1, api.MaxClock, math.MaxInt} {
			happens(t, h, now)
			results(t, h, "a", true, now, api.ErrNone)
			results(t, h, "", false, now, api.ErrNone)
		}
		if h.Remove("a") || h.Remove("") {
			t.Error("a backend is removed")
		}
		same(t, h, m)
		added(t, h, "a", true, 0, m.add("a", true, 0))
		same(t, h, m)
		happens(t, h, 4, m.run(4)...)
		same(t, h, m)
	}
}

// P23.1: Add of a backend that exists changes nothing, nor does Remove of one that does not.
func TestTwice(t *testing.T) {
	h := health.New(probe.Config{Every: 5, Wait: 2, Rise: 1, Fall: 1})
	added(t, h, "a", true, 1, true)
	added(t, h, "a", false, 9, false)
	first(t, h, 6, true)
	if v, is := h.Up("a"); v != (health.View{Name: "a", Up: true, Since: 1}) || !is {
		t.Errorf("it is %v", v)
	}
	happens(t, h, 6, asked("a", 6))
	added(t, h, "a", true, 1, false)
	first(t, h, 8, true)
	if h.Remove("b") || h.Epoch() != 1 || !h.Waits("a") {
		t.Error("something has changed")
	}
}

// P23.1: a backend that is removed is forgotten with its probe and its results.
func TestAgain(t *testing.T) {
	h := health.New(probe.Config{Every: 5, Wait: 2, Rise: 1, Fall: 2})
	added(t, h, "a", true, 0, true)
	happens(t, h, 5, asked("a", 5))
	results(t, h, "a", false, 5, api.OK)
	happens(t, h, 10, asked("a", 10))
	if !h.Remove("a") || h.Waits("a") {
		t.Error("Remove")
	}
	first(t, h, 0, false)
	results(t, h, "a", false, 10, api.ErrNone)
	happens(t, h, 99)
	added(t, h, "a", true, 10, true)
	results(t, h, "a", false, 10, api.ErrState)
	happens(t, h, 15, asked("a", 15))
	results(t, h, "a", false, 15, api.OK)
	happens(t, h, 20, asked("a", 20))
	results(t, h, "a", false, 20, api.OK, down("a", 20))
}

// P23.1: actions of the same tick are in the order in which they were scheduled, whatever their names and kinds.
func TestOrder(t *testing.T) {
	h := health.New(probe.Config{Every: 4, Wait: 2, Rise: 1, Fall: 1})
	added(t, h, "c", true, 2, true)
	added(t, h, "a", true, 0, true)
	added(t, h, "b", true, 2, true)
	happens(t, h, 5, asked("a", 4))
	// At 6, c and b are asked for, and a, whose action was scheduled last, is late.
	happens(t, h, 6, asked("c", 6), asked("b", 6), late("a", 6), down("a", 6))
	results(t, h, "b", true, 6, api.OK)
	results(t, h, "c", true, 6, api.OK)
	happens(t, h, 10, asked("a", 10), asked("b", 10), asked("c", 10))
}

// P23.1: one Run is as several, to any ticks between.
func TestSteps(t *testing.T) {
	rng := rand.New(rand.NewPCG(23, 2))
	for range 200 {
		h := health.New(probe.Config{Every: 1 + rng.IntN(9), Wait: 1 + rng.IntN(9), Rise: 1, Fall: 1 + rng.IntN(3)})
		for _, name := range names {
			h.Add(name, true, rng.IntN(9))
		}
		c := h.Clone()
		var l []health.Event
		for now := 0; now < 60; now += rng.IntN(5) {
			l = append(l, h.Run(now)...)
		}
		l = append(l, h.Run(60)...)
		if got := c.Run(60); !slices.Equal(got, l) {
			t.Fatalf("at once %v, in steps %v", got, l)
		}
		if !slices.Equal(h.Views(), c.Views()) || h.Epoch() != c.Epoch() {
			t.Fatal("the views differ")
		}
	}
}

// P23.1: nothing is scheduled beyond MaxClock; a probe then waits for its result for ever.
func TestEnd(t *testing.T) {
	const end = api.MaxClock
	for _, x := range []struct {
		since int
		at    int
		is    bool
	}{{end - 11, end - 1, true}, {end - 10, end, true}, {end - 9, 0, false}, {end, 0, false}, {end + 1, 0, false}, {math.MaxInt, 0, false}} {
		h := health.New(probe.Config{Every: 10, Wait: 1, Rise: 1, Fall: 1})
		added(t, h, "a", true, x.since, true)
		first(t, h, x.at, x.is)
		if !x.is {
			happens(t, h, math.MaxInt)
			continue
		}
		if x.at == end {
			happens(t, h, math.MaxInt, asked("a", end))
			if !h.Waits("a") {
				t.Error("it does not wait")
			}
			first(t, h, 0, false)
			results(t, h, "a", false, math.MaxInt, api.OK, down("a", end))
			first(t, h, 0, false)
			continue
		}
		happens(t, h, math.MaxInt, asked("a", end-1), late("a", end), down("a", end))
		first(t, h, 0, false)
		results(t, h, "a", true, end, api.ErrState)
	}
}

// P23.1: after a result whose next probe is never reached nothing is scheduled, not even that the probe is late.
func TestLast(t *testing.T) {
	for _, now := range []int{api.MaxClock - 9, api.MaxClock, api.MaxClock + 1, math.MaxInt} {
		h := health.New(probe.Config{Every: 10, Wait: 5, Rise: 1, Fall: 1})
		added(t, h, "a", false, 0, true)
		happens(t, h, 10, asked("a", 10))
		results(t, h, "a", true, now, api.OK, up("a", min(now, api.MaxClock)))
		first(t, h, 0, false)
		happens(t, h, math.MaxInt)
	}
}

// P23.1: the next probe is Every ticks after the time of the result, early or late as it may be.
func TestNext(t *testing.T) {
	for _, x := range []struct{ now, next int }{{math.MinInt, 10}, {-1, 10}, {0, 10}, {3, 13}, {10, 20}, {14, 24}, {99, 109}, {api.MaxClock - 10, api.MaxClock}} {
		h := health.New(probe.Config{Every: 10, Wait: 5, Rise: 1, Fall: 1})
		added(t, h, "a", false, 0, true)
		happens(t, h, 10, asked("a", 10))
		results(t, h, "a", true, x.now, api.OK, up("a", x.next-10))
		first(t, h, x.next, true)
		if v, _ := h.Up("a"); v != (health.View{Name: "a", Up: true, Since: x.next - 10}) {
			t.Errorf("it is %v", v)
		}
		happens(t, h, x.next-1)
		happens(t, h, x.next, asked("a", x.next))
	}
}

// P23.2: the epoch is incremented exactly with each Add, Remove, Up and Down, and the views are those of their epoch.
func TestEpoch(t *testing.T) {
	rng := rand.New(rand.NewPCG(23, 3))
	for range 200 {
		h := health.New(probe.Config{Every: 1 + rng.IntN(4), Wait: 1 + rng.IntN(4), Rise: 1 + rng.IntN(3), Fall: 1 + rng.IntN(3)})
		views := [][]health.View{nil}
		epoch, now := 0, 0
		for range 200 {
			now += rng.IntN(3)
			name := names[rng.IntN(len(names))]
			var l []health.Event
			switch rng.IntN(8) {
			case 0:
				if h.Add(name, rng.IntN(2) > 0, now) {
					epoch++
				}
			case 1:
				if h.Remove(name) {
					epoch++
				}
			case 2, 3, 4:
				l, _ = h.Result(name, rng.IntN(2) > 0, now)
			default:
				l = h.Run(now)
			}
			for _, event := range l {
				if event.Kind == health.Up || event.Kind == health.Down {
					epoch++
				}
			}
			if h.Epoch() != epoch {
				t.Fatalf("Epoch is %d, want %d", h.Epoch(), epoch)
			}
			for len(views) <= epoch {
				views = append(views, h.Views())
			}
			if !slices.Equal(h.Views(), views[epoch]) {
				t.Fatalf("epoch %d: the views are %v, and were %v", epoch, h.Views(), views[epoch])
			}
		}
	}
}

// P23.3: each probe that was asked for has either one result or is late exactly Wait ticks later, before the next one is asked for.
func TestEither(t *testing.T) {
	rng := rand.New(rand.NewPCG(23, 4))
	for range 200 {
		wait := 1 + rng.IntN(6)
		h := health.New(probe.Config{Every: 1 + rng.IntN(6), Wait: wait, Rise: 1, Fall: 2})
		for _, name := range names {
			h.Add(name, true, rng.IntN(6))
		}
		since := map[string]int{}
		for now := range 120 {
			for _, event := range h.Run(now) {
				at, waits := since[event.Name]
				switch event.Kind {
				case health.Asked:
					if waits {
						t.Fatalf("%q is asked twice", event.Name)
					}
					since[event.Name] = event.At
				case health.Late:
					if !waits || event.At != at+wait {
						t.Fatalf("%q is late at %d, asked at %d", event.Name, event.At, at)
					}
					delete(since, event.Name)
				}
			}
			name := names[rng.IntN(len(names))]
			at, waits := since[name]
			if h.Waits(name) != waits || waits && now >= at+wait {
				t.Fatalf("%q: Waits is %t at %d, asked at %d", name, h.Waits(name), now, at)
			}
			want := api.OK
			if !waits {
				want = api.ErrState
			}
			if _, e := h.Result(name, rng.IntN(2) > 0, now); e != want || h.Waits(name) {
				t.Fatalf("%q: Result is %d, want %d", name, e, want)
			}
			delete(since, name)
		}
	}
}

// Rule 5: views and events are new memory, and a clone is independent.
func TestMemory(t *testing.T) {
	h := health.New(probe.Config{Every: 2, Wait: 1, Rise: 1, Fall: 1})
	added(t, h, "a", true, 0, true)
	added(t, h, "b", true, 0, true)
	views, c := h.Views(), h.Clone()
	clear(views[:cap(views)])
	l := h.Run(2)
	clear(l[:cap(l)])
	happens(t, h, 3, late("a", 3), down("a", 3), late("b", 3), down("b", 3))
	if got := c.Views(); !slices.Equal(got, []health.View{{Name: "a", Up: true}, {Name: "b", Up: true}}) || c.Epoch() != 2 || c.Waits("a") {
		t.Errorf("the clone's views are %v", got)
	}
	c.Remove("a")
	happens(t, c, 2, asked("b", 2))
	if got := h.Views(); !slices.Equal(got, []health.View{{Name: "a", Since: 3}, {Name: "b", Since: 3}}) || h.Epoch() != 4 {
		t.Errorf("the views are %v", got)
	}
}
