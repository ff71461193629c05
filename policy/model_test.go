package policy_test

import (
	"maps"
	"slices"
	"strconv"
	"testing"

	"steward/api"
	"steward/draws"
	"steward/maglev"
	"steward/policy"
	"steward/prime"
	"steward/ring"
	"steward/score"
	"steward/siphash"
	"steward/token"
)

const (
	secret   = "a secret of more than 16 bytes"
	maxClock = 1 << 40
)

// model is a chooser by the words of the document.
type model struct {
	config policy.Config
	marks  map[string]int
	kept   []policy.Member
	built  int
}

func newModel(c policy.Config) *model {
	return &model{config: c, marks: map[string]int{}}
}

func (m *model) clone() *model {
	return &model{m.config, maps.Clone(m.marks), slices.Clone(m.kept), m.built}
}

func limited(n, least, greatest int) int {
	if n < least {
		return least
	}
	if n > greatest {
		return greatest
	}
	return n
}

// count returns the members that count.
func count(l []policy.Member) []policy.Member {
	var out []policy.Member
	for _, x := range l {
		if len(out) < 1024 && find(out, x.Name) < 0 {
			x.Weight = limited(x.Weight, 1, 65535)
			out = append(out, x)
		}
	}
	return out
}

func find(l []policy.Member, name string) int {
	return slices.IndexFunc(l, func(x policy.Member) bool { return x.Name == name })
}

// may returns the eligible members of those that count.
func may(l []policy.Member, tried []string) []policy.Member {
	var out []policy.Member
	for _, x := range l {
		if x.Busy < x.Cap && !slices.Contains(tried, x.Name) {
			out = append(out, x)
		}
	}
	return out
}

func (m *model) choose(l []policy.Member, a policy.Ask, d *draws.Draws) (policy.Choice, api.Errno) {
	all := count(l)
	eligible := may(all, a.Tried)
	if len(eligible) == 0 {
		return policy.Choice{}, api.ErrNone
	}
	if m.config.Sticky {
		if name, e := token.Verify(m.config.Secret, a.Pin, a.Now); e == api.OK && find(eligible, name) >= 0 {
			return policy.Choice{Name: name, Pinned: true}, api.OK
		}
	}
	out := policy.Choice{Name: m.byKind(all, eligible, a.Key, d)}
	if m.config.Sticky {
		until := limited(a.Now, 0, maxClock) + limited(m.config.Life, 1, 1<<20)
		out.Cookie = m.config.Cookie + "=" + token.Sign(m.config.Secret, out.Name, min(until, maxClock)) + "; Path=/; HttpOnly"
	}
	return out, api.OK
}

func (m *model) byKind(all, eligible []policy.Member, key string, d *draws.Draws) string {
	switch m.config.Kind {
	case 1:
		return least(eligible)
	case 2:
		return two(eligible, d)
	case 3, 4:
		return m.walk(all, eligible, key)
	}
	return m.turn(eligible)
}

func (m *model) turn(eligible []policy.Member) string {
	sum, greatest := 0, eligible[0].Name
	for _, x := range eligible {
		m.marks[x.Name] += x.Weight
		sum += x.Weight
	}
	for _, x := range eligible {
		if m.marks[x.Name] > m.marks[greatest] {
			greatest = x.Name
		}
	}
	m.marks[greatest] -= sum
	return greatest
}

func least(eligible []policy.Member) string {
	first := eligible[0]
	for _, x := range eligible {
		if (max(x.Busy, 0)+1)*first.Weight < (max(first.Busy, 0)+1)*x.Weight {
			first = x
		}
	}
	return first.Name
}

func two(eligible []policy.Member, d *draws.Draws) string {
	if len(eligible) == 1 {
		return eligible[0].Name
	}
	i, j := d.Two(len(eligible))
	x, y := eligible[i], eligible[j]
	if score.Compare(score.Load(y.Busy, y.Weight, y.Time), score.Load(x.Busy, x.Weight, x.Time)) < 0 {
		return y.Name
	}
	return x.Name
}

// walk builds a new table or ring each time, and counts when this is required.
func (m *model) walk(all, eligible []policy.Member, key string) string {
	if !slices.EqualFunc(all, m.kept, func(x, y policy.Member) bool { return x.Name == y.Name && x.Weight == y.Weight }) {
		m.kept = slices.Clone(all)
		m.built++
	}
	for _, name := range walkOf(m.config, all, key) {
		if find(eligible, name) >= 0 {
			return name
		}
	}
	return eligible[0].Name
}

func walkOf(c policy.Config, all []policy.Member, key string) []string {
	k := siphash.KeyOf(c.Secret)
	if c.Kind == 4 {
		var l []ring.Entry
		for _, x := range all {
			l = append(l, ring.Entry{Name: x.Name, Weight: x.Weight})
		}
		r, _ := ring.Build(k, l, c.Points)
		return r.Walk(k.Sum(key))
	}
	var l []maglev.Entry
	for _, x := range all {
		l = append(l, maglev.Entry{Name: x.Name, Weight: x.Weight})
	}
	places := max(prime.Next(limited(c.Places, 2, 1<<18)), prime.Next(100*len(l)))
	t, _ := maglev.Build(k, l, places)
	return t.Walk(k.Sum(key))
}

// chooses compares what Choose returns, draws and builds with the model.
func chooses(t *testing.T, c *policy.Chooser, m *model, l []policy.Member, a policy.Ask, d *draws.Draws) policy.Choice {
	t.Helper()
	drawn := d.Clone()
	want, e := m.choose(l, a, drawn)
	got, errno := c.Choose(l, a, d)
	if got != want || errno != e {
		t.Fatalf("kind %d: Choose(%+v, %+v) is %+v %d, want %+v %d", m.config.Kind, l, a, got, errno, want, e)
	}
	if d.Left() != drawn.Left() || d.Short() != drawn.Short() {
		t.Fatalf("kind %d: %d numbers are left, want %d", m.config.Kind, d.Left(), drawn.Left())
	}
	if c.Built() != m.built {
		t.Fatalf("kind %d: Built is %d, want %d", m.config.Kind, c.Built(), m.built)
	}
	return got
}

// names selects several times, with another key each time, and returns the names.
func names(t *testing.T, c *policy.Chooser, n int, l []policy.Member, a policy.Ask) string {
	t.Helper()
	s := ""
	for i := range n {
		a.Key = strconv.Itoa(i)
		got, e := c.Choose(l, a, draws.New())
		if e != api.OK {
			t.Fatalf("Choose(%+v) is %d", l, e)
		}
		s += got.Name + " "
	}
	return s
}
