package policy_test

import (
	"math"
	"math/rand/v2"
	"slices"
	"strconv"
	"strings"
	"testing"

	"steward/api"
	"steward/draws"
	"steward/policy"
	"steward/token"
)

// kinds are those that there are, and others, which count as Turns.
var kinds = []int{policy.Turns, policy.Least, policy.Two, policy.Table, policy.Circle, -1, 5, math.MinInt, math.MaxInt}

var (
	memberNames = []string{"a", "b", "c", "d-1", "", "A", "\xff", "e"}
	weights     = []int{1, 1, 2, 3, 65535, 0, -1, math.MinInt, 65536, math.MaxInt}
	times       = []float64{1, 2, 0.5, 0, -3, math.NaN(), math.Inf(1), math.Inf(-1)}
	ticks       = []int{0, 1, 9, 10, 11, 500, -1, math.MinInt, maxClock - 1, maxClock, maxClock + 1, math.MaxInt}
)

func one[T any](rng *rand.Rand, l []T) T {
	return l[rng.IntN(len(l))]
}

// members returns random members, some of them with equal names.
func members(rng *rand.Rand) []policy.Member {
	var l []policy.Member
	for range rng.IntN(7) {
		l = append(l, policy.Member{
			Name:   one(rng, memberNames),
			Weight: one(rng, weights),
			Busy:   rng.IntN(6) - 1,
			Cap:    rng.IntN(6) - 1,
			Time:   one(rng, times),
		})
	}
	return l
}

// pin returns a token that is accepted, is late or not signed, or no token.
func pin(rng *rand.Rand, name string) string {
	s := token.Sign(secret, name, one(rng, []int{5, 10, 1000, maxClock}))
	switch rng.IntN(8) {
	case 0:
		return ""
	case 1:
		return token.Sign("another secret", name, maxClock)
	case 2:
		return s + " "
	case 3:
		return strings.Replace(s, ".", ".1", 1)
	}
	return s
}

func ask(rng *rand.Rand) policy.Ask {
	a := policy.Ask{Key: strconv.Itoa(rng.IntN(20)), Now: one(rng, ticks), Pin: pin(rng, one(rng, memberNames))}
	for range rng.IntN(3) {
		a.Tried = append(a.Tried, one(rng, memberNames))
	}
	return a
}

// P26.1, P26.2, P26.3: any calls, on two choosers of which one becomes a clone of the other now and then.
func TestRandom(t *testing.T) {
	rng := rand.New(rand.NewPCG(26, 1))
	for _, kind := range kinds {
		for _, sticky := range []bool{false, true} {
			config := policy.Config{Kind: kind, Sticky: sticky, Cookie: "pin", Secret: secret, Life: 10, Places: 700, Points: 9}
			choosers := []*policy.Chooser{policy.New(config), policy.New(config)}
			models := []*model{newModel(config), newModel(config)}
			d := draws.New()
			l := members(rng)
			for range 400 {
				k := rng.IntN(2)
				if rng.IntN(20) == 0 {
					choosers[1-k], models[1-k] = choosers[k].Clone(), models[k].clone()
				}
				if rng.IntN(3) == 0 {
					l = members(rng)
				}
				d.Push(rng.Uint64())
				chooses(t, choosers[k], models[k], l, ask(rng), d)
			}
		}
	}
}

// three are members with different weights and loads.
func three() []policy.Member {
	return []policy.Member{
		{Name: "a", Weight: 2, Busy: 2, Cap: 5, Time: 1},
		{Name: "b", Weight: 1, Busy: 0, Cap: 5, Time: 4},
		{Name: "c", Weight: 4, Busy: 4, Cap: 5, Time: 1},
	}
}

// P26.1: the document's example.
func TestExample(t *testing.T) {
	l := []policy.Member{{Name: "a", Weight: 2, Cap: 1}, {Name: "b", Weight: 1, Cap: 1}}
	if got := names(t, policy.New(policy.Config{Kind: policy.Turns}), 6, l, policy.Ask{}); got != "a b a a b a " {
		t.Error(got)
	}
}

// P26.1: the numbers of the kinds.
func TestKinds(t *testing.T) {
	if policy.Turns != 0 || policy.Least != 1 || policy.Two != 2 || policy.Table != 3 || policy.Circle != 4 {
		t.Error("wrong numbers")
	}
}

// P26.1: any other Kind counts as Turns, without a table or a ring.
func TestOtherKinds(t *testing.T) {
	want := names(t, policy.New(policy.Config{}), 7, three(), policy.Ask{})
	for _, kind := range []int{math.MinInt, -1, 5, 6, math.MaxInt} {
		c := policy.New(policy.Config{Kind: kind})
		if got := names(t, c, 7, three(), policy.Ask{}); got != want || c.Built() != 0 {
			t.Errorf("kind %d: %s, want %s", kind, got, want)
		}
	}
}

// P26.1: Turns are taken by the weights, and those that are not eligible lose none.
func TestTurns(t *testing.T) {
	c := policy.New(policy.Config{Kind: policy.Turns})
	if got := names(t, c, 7, three(), policy.Ask{}); got != "c a c b c a c " {
		t.Error(got)
	}
	config := policy.Config{Kind: policy.Turns}
	c, m := policy.New(config), newModel(config)
	for _, tried := range []string{"c", "a", "", "b", "c", "", "", "a"} {
		chooses(t, c, m, three(), policy.Ask{Tried: []string{tried}}, draws.New())
	}
}

// P26.1: Least goes by weights and requests, without regard to times.
func TestLeast(t *testing.T) {
	c := policy.New(policy.Config{Kind: policy.Least})
	if got := names(t, c, 2, three(), policy.Ask{}); got != "b b " {
		t.Error(got)
	}
	if got := names(t, c, 2, three(), policy.Ask{Tried: []string{"b"}}); got != "c c " {
		t.Error(got)
	}
}

// P26.1: Two draws two numbers for two eligible members or more, and goes by times too.
func TestTwo(t *testing.T) {
	c := policy.New(policy.Config{Kind: policy.Two})
	for _, x := range []struct {
		drawn []uint64
		tried []string
		want  string
		left  int
	}{
		{[]uint64{0, 0, 7}, nil, "a", 1},                            // a has 3/2, b has 4
		{[]uint64{0, 1 << 63, 7}, nil, "c", 1},                      // c has 5/4
		{[]uint64{1 << 63, 1 << 63, 7}, nil, "c", 1},                // b and c
		{[]uint64{1 << 63, 0, 7}, []string{"a"}, "c", 1},            // of b and c, c first
		{[]uint64{0, 0, 7}, []string{"a", "c"}, "b", 3},             // b alone
		{[]uint64{0}, []string{"c", "c", "other", "", "c"}, "a", 0}, // one number is missing
	} {
		d := draws.New()
		d.Push(x.drawn...)
		got, e := c.Choose(three(), policy.Ask{Tried: x.tried}, d)
		if got != (policy.Choice{Name: x.want}) || e != api.OK || d.Left() != x.left {
			t.Errorf("%v: %+v %d, %d left", x, got, e, d.Left())
		}
	}
}

// P26.1: only Two draws numbers.
func TestDraws(t *testing.T) {
	for _, kind := range kinds {
		d := draws.New()
		d.Push(1, 2, 3)
		policy.New(policy.Config{Kind: kind}).Choose(three(), policy.Ask{}, d)
		if drawn := d.Left() != 3; drawn != (kind == policy.Two) || d.Short() != 0 {
			t.Errorf("kind %d: %d left", kind, d.Left())
		}
	}
}

// P26.1: a weight is limited to 1 to 65535.
func TestWeights(t *testing.T) {
	for _, kind := range kinds[:5] {
		for _, x := range []struct{ weight, counts int }{
			{math.MinInt, 1}, {-1, 1}, {0, 1}, {1, 1}, {2, 2}, {65534, 65534}, {65535, 65535}, {65536, 65535}, {math.MaxInt, 65535},
		} {
			l, same := three(), three()
			l[1].Weight, same[1].Weight = x.weight, x.counts
			c := policy.New(policy.Config{Kind: kind, Points: 50})
			got := names(t, c, 20, l, policy.Ask{})
			if want := names(t, policy.New(policy.Config{Kind: kind, Points: 50}), 20, same, policy.Ask{}); got != want {
				t.Errorf("kind %d, weight %d: %s, want %s", kind, x.weight, got, want)
			}
			built := c.Built()
			names(t, c, 1, same, policy.Ask{})
			if c.Built() != built {
				t.Errorf("kind %d: built again for weight %d after %d", kind, x.counts, x.weight)
			}
		}
	}
}

// P26.1, P26.2: only members with fewer requests than their Cap that were not tried are eligible.
func TestEligible(t *testing.T) {
	for _, kind := range kinds {
		for _, x := range []struct {
			busy, most int
			tried      []string
			is         bool
		}{
			{0, 1, nil, true}, {0, 0, nil, false}, {1, 1, nil, false}, {2, 1, nil, false}, {65534, 65535, nil, true},
			{-1, 0, nil, true}, {-1, -1, nil, false}, {math.MinInt, math.MinInt + 1, nil, true}, {math.MaxInt, math.MinInt, nil, false},
			{math.MinInt, math.MaxInt, nil, true}, {math.MaxInt - 1, math.MaxInt, nil, true}, {math.MaxInt, math.MaxInt, nil, false},
			{0, 1, []string{"b", "", "A"}, true}, {0, 1, []string{"b", "a", "c"}, false}, {0, 1, []string{"a", "a"}, false},
		} {
			c := policy.New(policy.Config{Kind: kind})
			got, e := c.Choose([]policy.Member{{Name: "a", Weight: 1, Busy: x.busy, Cap: x.most}}, policy.Ask{Tried: x.tried}, draws.New())
			if x.is && (got.Name != "a" || e != api.OK) || !x.is && (got != policy.Choice{} || e != api.ErrNone) {
				t.Errorf("kind %d, %+v: %+v %d", kind, x, got, e)
			}
		}
	}
}

// P26.1: with ErrNone nothing is drawn, no mark changes, and nothing is built or forgotten.
func TestNone(t *testing.T) {
	full := three()
	for i := range full {
		full[i].Cap = full[i].Busy
	}
	for _, kind := range kinds {
		config := policy.Config{Kind: kind, Sticky: true, Secret: secret, Points: 9}
		c, m, d := policy.New(config), newModel(config), draws.New()
		d.Push(1, 2, 3, 4, 5, 6, 7, 8)
		for i := range 8 {
			chooses(t, c, m, three(), policy.Ask{Key: strconv.Itoa(i)}, d)
			for _, l := range [][]policy.Member{nil, {}, full, full[1:], {{Name: "z"}}} {
				chooses(t, c, m, l, policy.Ask{Pin: token.Sign(secret, "a", 9)}, d)
			}
			tried := policy.Ask{Tried: []string{"b", "c", "a"}, Pin: token.Sign(secret, "a", 9)}
			chooses(t, c, m, three(), tried, d)
			chooses(t, c, m, three()[:2], tried, d)
		}
		if kind == policy.Table && c.Built() != 1 {
			t.Errorf("built %d times", c.Built())
		}
	}
}

// P26.1: of several members with the same name only the first one counts, even if it is not eligible.
func TestSameName(t *testing.T) {
	for _, kind := range kinds {
		c := policy.New(policy.Config{Kind: kind, Sticky: true, Secret: secret})
		l := []policy.Member{{Name: "a", Weight: 1, Busy: 1, Cap: 1}, {Name: "a", Weight: 5, Cap: 9}}
		if got, e := c.Choose(l, policy.Ask{Pin: token.Sign(secret, "a", 9)}, draws.New()); e != api.ErrNone {
			t.Errorf("kind %d: %+v %d", kind, got, e)
		}
		l = append(three(), three()...)
		l[3].Weight, l[4].Busy, l[5].Time = 50, -9, -9
		got := names(t, policy.New(policy.Config{Kind: kind}), 20, l, policy.Ask{})
		if want := names(t, policy.New(policy.Config{Kind: kind}), 20, three(), policy.Ask{}); got != want {
			t.Errorf("kind %d: %s, want %s", kind, got, want)
		}
	}
}

// many returns n full members, each of them twice, and then one that is not full.
func many(n int) []policy.Member {
	var l []policy.Member
	for i := range n {
		full := policy.Member{Name: "n" + strconv.Itoa(i), Weight: 1}
		l = append(l, full, full)
	}
	return append(l, policy.Member{Name: "last", Weight: 1, Cap: 1})
}

// P26.1: at most the first 1024 names count.
func TestManyNames(t *testing.T) {
	for _, kind := range kinds[:5] {
		config := policy.Config{Kind: kind, Sticky: true, Secret: secret, Points: 1}
		c, a := policy.New(config), policy.Ask{Key: "k"}
		if got, e := c.Choose(many(1023), a, draws.New()); got.Name != "last" || e != api.OK {
			t.Errorf("kind %d: %+v %d", kind, got, e)
		}
		a.Pin = token.Sign(secret, "last", 9)
		if got, e := c.Choose(many(1024), a, draws.New()); got.Name != "" || e != api.ErrNone {
			t.Errorf("kind %d: %+v %d", kind, got, e)
		}
		l := many(1024)
		l[5].Cap, l[4].Cap = 1, 1
		got := chooses(t, c, restarted(config, c), l, a, draws.New())
		if got.Name != "n2" || got.Pinned {
			t.Errorf("kind %d: %+v", kind, got)
		}
	}
}

// restarted returns a new model that has built as often as a chooser.
func restarted(config policy.Config, c *policy.Chooser) *model {
	m := newModel(config)
	m.built = c.Built()
	return m
}

// P26.1: a Table has at least Places places, which are limited, and at least 100 for each member; a Circle as many points as it is told. Which of them a key selects depends on that.
func TestPlaces(t *testing.T) {
	for _, places := range []int{math.MinInt, -1, 0, 1, 2, 3, 101, 299, 300, 301, 307, 308, 311, 1000, 1<<18 - 1, 1 << 18, 1<<18 + 1, 1 << 19, 1 << 20, math.MaxInt} {
		selects(t, policy.Config{Kind: policy.Table, Secret: secret, Places: places}, three())
	}
	for _, points := range []int{math.MinInt, -1, 0, 1, 2, 50, 255, 256, 257, math.MaxInt} {
		selects(t, policy.Config{Kind: policy.Circle, Secret: secret, Points: points}, three())
	}
	var l []policy.Member
	for i := range 12 {
		l = append(l, policy.Member{Name: strconv.Itoa(i), Weight: 1 + i%2, Cap: 1})
		selects(t, policy.Config{Kind: policy.Table, Secret: secret, Places: 500}, l)
	}
}

// selects compares what keys select with a walk.
func selects(t *testing.T, config policy.Config, l []policy.Member) {
	t.Helper()
	c := policy.New(config)
	for key := range 60 {
		a := policy.Ask{Key: strconv.Itoa(key)}
		want := walkOf(config, l, a.Key)
		for i, name := range want {
			got, e := c.Choose(l, a, draws.New())
			if got != (policy.Choice{Name: name}) || e != api.OK {
				t.Fatalf("%+v: try %d for %s is %+v %d, want %v", config, i, a.Key, got, e, want)
			}
			a.Tried = append(a.Tried, name)
		}
	}
	if c.Built() != 1 {
		t.Errorf("built %d times", c.Built())
	}
}

// P26.1: which member a key selects depends on the first 16 bytes of the Secret.
func TestSecret(t *testing.T) {
	for _, kind := range []int{policy.Table, policy.Circle} {
		of := func(s string) string {
			return names(t, policy.New(policy.Config{Kind: kind, Secret: s, Points: 50}), 60, three(), policy.Ask{})
		}
		if of("") != of("\x00") || of(secret) != of(secret[:16]) || of(secret) == of("") || of(secret) == of(secret[1:]) {
			t.Errorf("kind %d: another key", kind)
		}
	}
}

// P26.1: if no eligible member has a place in the table, the first one of them is selected.
func TestNoPlace(t *testing.T) {
	l := []policy.Member{{Name: "z", Weight: 1, Cap: 1}, {Name: "big", Weight: 65535, Cap: 1}, {Name: "a", Weight: 1, Cap: 1}}
	c := policy.New(policy.Config{Kind: policy.Table})
	for _, x := range []struct {
		tried []string
		want  string
	}{
		{nil, "big"}, {[]string{"big"}, "z"}, {[]string{"big", "z"}, "a"}, {[]string{"a"}, "big"},
	} {
		if got := names(t, c, 1, l, policy.Ask{Tried: x.tried}); got != x.want+" " {
			t.Errorf("%v: %s", x.tried, got)
		}
	}
}

// P26.1: a table or ring is built again only if the names or weights that count change, or their order.
func TestBuilt(t *testing.T) {
	for _, kind := range []int{policy.Table, policy.Circle} {
		c := policy.New(policy.Config{Kind: kind, Sticky: true, Secret: secret, Points: 9})
		want := 0
		built := func(what string, n int, l []policy.Member, a policy.Ask) {
			t.Helper()
			want += n
			if _, e := c.Choose(l, a, draws.New()); e != api.OK || c.Built() != want {
				t.Errorf("kind %d, %s: %d, Built is %d, want %d", kind, what, e, c.Built(), want)
			}
		}
		l := three()
		built("first", 1, l, policy.Ask{})
		built("another key", 0, l, policy.Ask{Key: "k", Now: 7, Tried: []string{"a"}, Pin: "x"})
		l[0].Busy, l[1].Cap, l[2].Time = 1, 1, 9
		built("other loads", 0, l, policy.Ask{})
		l[1].Cap = 0
		built("one is full", 0, l, policy.Ask{})
		built("a second one of a name", 0, append(l, policy.Member{Name: "a", Weight: 7, Cap: 1}), policy.Ask{})
		l[1].Weight = 3
		built("another weight", 1, l, policy.Ask{})
		l[0], l[1] = l[1], l[0]
		built("another order", 1, l, policy.Ask{})
		l[1].Name = "d"
		built("another name", 1, l, policy.Ask{})
		built("one less", 1, l[:2], policy.Ask{})
		built("one more", 1, l, policy.Ask{})
		built("pinned", 0, three(), policy.Ask{Pin: token.Sign(secret, "a", 5)})
		built("the same", 0, l, policy.Ask{})
		built("not pinned", 1, three(), policy.Ask{})
	}
}

// P26.1: a table or ring is kept while members change that does not change, whoever holds the list.
func TestBuiltOfChangedList(t *testing.T) {
	c := policy.New(policy.Config{Kind: policy.Circle, Points: 20})
	l := three()
	names(t, c, 1, l, policy.Ask{})
	l[0].Name, l[0].Weight = "x", 9
	want := names(t, policy.New(policy.Config{Kind: policy.Circle, Points: 20}), 30, l, policy.Ask{})
	if got := names(t, c, 30, l, policy.Ask{}); got != want || c.Built() != 2 {
		t.Errorf("%s, want %s; built %d times", got, want, c.Built())
	}
}

// P26.3: a token pins to an eligible member if it is accepted at that tick, whatever the Kind, and then there is no cookie.
func TestPinned(t *testing.T) {
	for _, kind := range kinds {
		c := policy.New(policy.Config{Kind: kind, Sticky: true, Cookie: "pin", Secret: secret, Life: 10})
		for _, name := range []string{"a", "b", "c"} {
			for _, now := range []int{math.MinInt, -1, 0, 20} {
				d := draws.New()
				got, e := c.Choose(three(), policy.Ask{Pin: token.Sign(secret, name, 20), Now: now, Tried: []string{"z"}}, d)
				if got != (policy.Choice{Name: name, Pinned: true}) || e != api.OK || d.Short() != 0 || c.Built() != 0 {
					t.Errorf("kind %d, %s at %d: %+v %d", kind, name, now, got, e)
				}
			}
		}
	}
}

// P26.3: while clients are pinned, no mark changes.
func TestPinnedMarks(t *testing.T) {
	c := policy.New(policy.Config{Kind: policy.Turns, Sticky: true, Secret: secret})
	s := ""
	for range 7 {
		c.Choose(three(), policy.Ask{Pin: token.Sign(secret, "c", 20)}, draws.New())
		s += names(t, c, 1, three(), policy.Ask{})
	}
	if s != "c a c b c a c " {
		t.Error(s)
	}
}

// P26.3: a token that is not accepted, or for a member that is not eligible, changes nothing.
func TestNotPinned(t *testing.T) {
	for _, kind := range kinds {
		for _, sticky := range []bool{true, false} {
			config := policy.Config{Kind: kind, Sticky: sticky, Cookie: "pin", Secret: secret, Life: 10, Points: 9}
			good := token.Sign(secret, "b", 20)
			pins := []string{
				"x", "b", "b.20", good[:len(good)-1], good + "0", " " + good, strings.ToUpper(good), "a" + good[1:], "b.21" + good[4:],
				token.Sign("", "b", 20), token.Sign(secret[:16], "b", 20), token.Sign(secret, "z", 20), token.Sign(secret, "b", 18), "pin=" + good,
			}
			if !sticky {
				pins = append(pins, good)
			}
			c, plain := policy.New(config), policy.New(config)
			for i, pin := range pins {
				a, without := policy.Ask{Key: strconv.Itoa(i), Now: 19, Pin: pin}, policy.Ask{Key: strconv.Itoa(i), Now: 19}
				d, other := draws.New(), draws.New()
				d.Push(1<<63, 5, 6)
				other.Push(1<<63, 5, 6)
				got, _ := c.Choose(three(), a, d)
				want, _ := plain.Choose(three(), without, other)
				if got != want || d.Left() != other.Left() || c.Built() != plain.Built() {
					t.Errorf("kind %d, %q: %+v, want %+v", kind, pin, got, want)
				}
			}
		}
	}
}

// P26.2, P26.3: a correct token does not pin to a member that is full, was tried, or is not there.
func TestPinNotEligible(t *testing.T) {
	for _, kind := range kinds {
		c := policy.New(policy.Config{Kind: kind, Sticky: true, Cookie: "pin", Secret: secret, Life: 10})
		l := three()
		l[1].Busy = 5
		a := policy.Ask{Pin: token.Sign(secret, "b", 20)}
		full, _ := c.Choose(l, a, draws.New())
		a.Tried = []string{"b"}
		tried, _ := c.Choose(three(), a, draws.New())
		a.Tried = nil
		gone, _ := c.Choose(append(three()[:1], three()[2]), a, draws.New())
		for _, got := range []policy.Choice{full, tried, gone} {
			if got.Name == "b" || got.Name == "" || got.Pinned || !strings.HasPrefix(got.Cookie, "pin="+got.Name+".10.") {
				t.Errorf("kind %d: %+v", kind, got)
			}
		}
	}
}

// P26.1: until when a token is valid that is issued: Now and Life are limited.
func TestCookie(t *testing.T) {
	l := []policy.Member{{Name: "a", Cap: 1}}
	for _, x := range []struct{ life, now, until int }{
		{10, 5, 15}, {math.MinInt, 5, 6}, {-1, 5, 6}, {0, 5, 6}, {1, 5, 6}, {2, 5, 7},
		{1<<20 - 1, 5, 1<<20 + 4}, {1 << 20, 5, 1<<20 + 5}, {1<<20 + 1, 5, 1<<20 + 5}, {math.MaxInt, 5, 1<<20 + 5},
		{10, math.MinInt, 10}, {10, -1, 10}, {10, 0, 10}, {10, maxClock - 11, maxClock - 1}, {10, maxClock - 10, maxClock},
		{10, maxClock - 9, maxClock}, {10, maxClock, maxClock}, {10, math.MaxInt, maxClock}, {math.MaxInt, math.MaxInt, maxClock},
	} {
		c := policy.New(policy.Config{Sticky: true, Cookie: "a cookie", Secret: secret, Life: x.life})
		got, e := c.Choose(l, policy.Ask{Now: x.now}, draws.New())
		want := "a cookie=" + token.Sign(secret, "a", x.until) + "; Path=/; HttpOnly"
		if got != (policy.Choice{Name: "a", Cookie: want}) || e != api.OK {
			t.Errorf("%+v: %+v %d", x, got, e)
		}
	}
}

// P26.1: a cookie that was issued pins to its member, as long as it says, and no longer.
func TestCookiePins(t *testing.T) {
	c := policy.New(policy.Config{Sticky: true, Cookie: "pin", Secret: secret, Life: 10})
	first, _ := c.Choose(three(), policy.Ask{Now: 5}, draws.New())
	pair, _, _ := strings.Cut(first.Cookie, ";")
	pin, _ := token.Find([]string{pair}, "pin")
	for now := range 20 {
		got, _ := c.Choose(three(), policy.Ask{Now: now, Pin: pin}, draws.New())
		if got.Pinned != (now <= 15) || got.Pinned != (got.Cookie == "") || got.Pinned && got.Name != first.Name {
			t.Errorf("at %d: %+v", now, got)
		}
	}
}

// P26.1: a member whose name no token can have is selected, and its cookie has an empty value.
func TestCookieOfOtherNames(t *testing.T) {
	c := policy.New(policy.Config{Sticky: true, Cookie: "pin"})
	for _, name := range []string{"", "A", "a b", strings.Repeat("a", 33)} {
		got, e := c.Choose([]policy.Member{{Name: name, Cap: 1}}, policy.Ask{}, draws.New())
		if got != (policy.Choice{Name: name, Cookie: "pin=; Path=/; HttpOnly"}) || e != api.OK {
			t.Errorf("%q: %+v %d", name, got, e)
		}
	}
}

// P26.1: a zero Chooser is one without a configuration.
func TestZero(t *testing.T) {
	for _, c := range []*policy.Chooser{{}, (&policy.Chooser{}).Clone(), policy.New(policy.Config{}), policy.New(policy.Config{}).Clone()} {
		if c.Built() != 0 {
			t.Error("something was built")
		}
		if got, e := c.Choose(nil, policy.Ask{}, draws.New()); got != (policy.Choice{}) || e != api.ErrNone {
			t.Errorf("%+v %d", got, e)
		}
		if got := names(t, c, 7, three(), policy.Ask{Pin: token.Sign("", "b", 9)}); got != "c a c b c a c " {
			t.Error(got)
		}
	}
}

// P26.1: a clone and its original have the same marks and tables, and do not change each other.
func TestClone(t *testing.T) {
	for _, kind := range kinds {
		config := policy.Config{Kind: kind, Sticky: true, Cookie: "pin", Secret: secret, Points: 9}
		c, m, d := policy.New(config), newModel(config), draws.New()
		chooses(t, c, m, three(), policy.Ask{}, d)
		clone, cloned := c.Clone(), m.clone()
		for i := range 5 {
			chooses(t, c, m, three()[:2], policy.Ask{Key: strconv.Itoa(i)}, d)
		}
		for i := range 10 {
			chooses(t, clone, cloned, three(), policy.Ask{Key: strconv.Itoa(i)}, d)
			chooses(t, c, m, three()[:2], policy.Ask{Key: strconv.Itoa(i)}, d)
		}
	}
}

// Rule 5: arguments are not changed, and not kept.
func TestMemory(t *testing.T) {
	for _, kind := range kinds {
		config := policy.Config{Kind: kind, Sticky: true, Secret: secret, Points: 9}
		c, m := policy.New(config), newModel(config)
		l := append(three(), three()[0], policy.Member{Name: "spare", Weight: -1})
		tried := []string{"b", "c", "a"}
		before, triedBefore := slices.Clone(l), slices.Clone(tried)
		for i := range 5 {
			chooses(t, c, m, l[:4], policy.Ask{Key: strconv.Itoa(i), Tried: tried[:i%2]}, draws.New())
		}
		if !slices.Equal(l, before) || !slices.Equal(tried, triedBefore) {
			t.Errorf("kind %d: arguments are %+v %v", kind, l, tried)
		}
		clear(l)
		clear(tried)
		for i := range 5 {
			chooses(t, c, m, three(), policy.Ask{Key: strconv.Itoa(i)}, draws.New())
		}
	}
}
