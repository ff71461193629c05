package ring_test

import (
	"math"
	"math/rand/v2"
	"slices"
	"strconv"
	"strings"
	"testing"

	"steward/api"
	"steward/ring"
	"steward/siphash"
)

// Two names of which point 0 has the same value with the key "key", found by a search.
const (
	twinOne   = "80a31a73c560f32b"
	twinTwo   = "91f1b0ead17f3c32"
	twinValue = 0x1e5c8ee349f4a175
)

// point is a point of a ring as Point returns it.
type point struct {
	value uint64
	name  string
}

// build returns a ring that must not be an error.
func build(t *testing.T, secret string, l []ring.Entry, per int) *ring.Ring {
	t.Helper()
	r, e := ring.Build(siphash.KeyOf(secret), l, per)
	if e != api.OK || r == nil {
		t.Fatalf("Build of %v with %d: %d", l, per, e)
	}
	return r
}

// equal returns n entries with the same weight.
func equal(n, weight int) []ring.Entry {
	var l []ring.Entry
	for i := range n {
		l = append(l, ring.Entry{Name: "n" + strconv.Itoa(i), Weight: weight})
	}
	return l
}

// points returns all points of a ring.
func points(r *ring.Ring) []point {
	var l []point
	for i := range r.Len() {
		value, name := r.Point(i)
		l = append(l, point{value, name})
	}
	return l
}

// model returns the points by the words of the document.
func model(secret string, l []ring.Entry, per int) []point {
	if per < 1 {
		per = 1
	}
	if per > 256 {
		per = 256
	}
	greatest := 1
	for _, e := range l {
		greatest = max(greatest, e.Weight)
	}
	var all []point
	for _, e := range l {
		n := per * e.Weight / greatest
		if n == 0 {
			n = 1
		}
		for i := range n {
			all = append(all, point{siphash.KeyOf(secret).Sum(e.Name + "#" + strconv.Itoa(i)), e.Name})
		}
	}
	slices.SortFunc(all, func(a, b point) int {
		if a.value < b.value || a.value == b.value && a.name < b.name {
			return -1
		}
		return 1
	})
	return all
}

// modelWalk returns the names by the words of the document: Pick is the first one.
func modelWalk(all []point, x uint64) []string {
	start := 0
	for start < len(all) && all[start].value < x {
		start++
	}
	var names []string
	for _, p := range slices.Concat(all[start:], all[:start]) {
		if !slices.Contains(names, p.name) {
			names = append(names, p.name)
		}
	}
	return names
}

// random returns up to 8 entries with names of any bytes.
func random(rng *rand.Rand) []ring.Entry {
	var l []ring.Entry
	for range rng.IntN(9) {
		name := make([]byte, rng.IntN(20))
		for i := range name {
			name[i] = byte(rng.Uint32())
		}
		e := ring.Entry{Name: string(name), Weight: 1 + rng.IntN(api.MaxWeight)>>rng.IntN(16)}
		if !slices.ContainsFunc(l, func(o ring.Entry) bool { return o.Name == e.Name }) {
			l = append(l, e)
		}
	}
	return l
}

// numbers returns the numbers at and beside all points, the least and the greatest one, and some others.
func numbers(rng *rand.Rand, all []point) []uint64 {
	l := []uint64{0, 1, math.MaxInt64, 1 << 63, math.MaxUint64 - 1, math.MaxUint64}
	for _, p := range all {
		l = append(l, p.value-1, p.value, p.value+1)
	}
	for range 20 {
		l = append(l, rng.Uint64())
	}
	return l
}

// check compares Pick and Walk of a number with the names that are wanted.
func check(t *testing.T, r *ring.Ring, x uint64, want []string) {
	t.Helper()
	if got := r.Walk(x); !slices.Equal(got, want) {
		t.Fatalf("Walk(%#x) is %q, want %q", x, got, want)
	}
	first := ""
	if len(want) > 0 {
		first = want[0]
	}
	if got := r.Pick(x); got != first {
		t.Fatalf("Pick(%#x) is %q, want %q", x, got, first)
	}
}

// P19.1: rings that were computed by another program.
func TestBuildExamples(t *testing.T) {
	for _, x := range []struct {
		secret string
		l      []ring.Entry
		per    int
		want   []point
	}{
		{"key", []ring.Entry{{"a", 1}}, 4, []point{
			{0x01744b33e6d1c9be, "a"}, {0x815478c627dbd131, "a"}, {0x94bc6c24f480d6ed, "a"}, {0xf430885d467d44aa, "a"}}},
		{"key", []ring.Entry{{"b", 1}, {"a", 3}, {"c", 2}}, 5, []point{
			{0x01744b33e6d1c9be, "a"}, {0x815478c627dbd131, "a"}, {0x8d4b56358cdadd1f, "c"}, {0x94bc6c24f480d6ed, "a"}, {0x9cf83b7125bb4565, "a"},
			{0xa9a6142a96e3df99, "b"}, {0xb2e53cf001c9181e, "c"}, {0xea3e91417ef5b39a, "c"}, {0xf430885d467d44aa, "a"}}},
		{"a secret that is longer than 16", []ring.Entry{{"", 1}, {"a#1", 1}, {"\x00\xff", 65535}}, 3, []point{
			{0x6ded9eb0defafb43, ""}, {0x79a369238b852034, "\x00\xff"}, {0x86f379d9f95056d2, "a#1"}, {0x910cf705bb007fa7, "\x00\xff"}, {0xa3dbc7d98df4f589, "\x00\xff"}}},
		{"", []ring.Entry{{"x", 1}}, 12, []point{
			{0x076878e0da7c8b2c, "x"}, {0x1c9b8cf4630c113a, "x"}, {0x358509727d75680b, "x"}, {0x3d25566a24bb4fa2, "x"}, {0x4bc568e21b7fec3b, "x"}, {0x64a6ef4054e6c255, "x"},
			{0x6f3bdee2a524f6f2, "x"}, {0x9e53d0c073e0685e, "x"}, {0xa17dc75747c45b94, "x"}, {0xa815620f84b449a1, "x"}, {0xce864913f0a35518, "x"}, {0xfd09416410f37b0c, "x"}}},
	} {
		if got := points(build(t, x.secret, x.l, x.per)); !slices.Equal(got, x.want) {
			t.Errorf("%v with %d: %x, want %x", x.l, x.per, got, x.want)
		}
	}
}

// P19.1: points, picks and walks of random entries with random keys.
func TestBuildRandom(t *testing.T) {
	rng := rand.New(rand.NewPCG(19, 1))
	for range 500 {
		l := random(rng)
		secret := strconv.Itoa(rng.Int())
		per := rng.IntN(300)>>rng.IntN(9) - 2
		r := build(t, secret, l, per)
		want := model(secret, l, per)
		if got := points(r); !slices.Equal(got, want) {
			t.Fatalf("%v with %d: %x, want %x", l, per, got, want)
		}
		for _, x := range numbers(rng, want[:min(len(want), 30)]) {
			check(t, r, x, modelWalk(want, x))
		}
	}
}

// P19.1: how many points each entry has, for the least and the greatest weights and per.
func TestCounts(t *testing.T) {
	for i, x := range []struct {
		per     int
		weights []int
		want    []int
	}{
		{4, []int{1}, []int{4}}, {4, []int{65535}, []int{4}},
		{math.MinInt, []int{1}, []int{1}}, {-1, []int{1}, []int{1}}, {0, []int{1, 2}, []int{1, 1}}, {1, []int{1, 2}, []int{1, 1}}, {2, []int{1, 2}, []int{1, 2}},
		{255, []int{7}, []int{255}}, {256, []int{7}, []int{256}}, {257, []int{7}, []int{256}}, {math.MaxInt, []int{7, 1}, []int{256, 36}},
		{8, []int{2, 4, 1}, []int{4, 8, 2}}, {10, []int{1, 3}, []int{3, 10}}, {10, []int{2, 3}, []int{6, 10}}, {9, []int{1, 10}, []int{1, 9}},
		{256, []int{1, 65535}, []int{1, 256}}, {256, []int{255, 65535}, []int{1, 256}}, {256, []int{256, 65535}, []int{1, 256}},
		{256, []int{511, 65535}, []int{1, 256}}, {256, []int{512, 65535}, []int{2, 256}}, {256, []int{65534, 65535}, []int{255, 256}},
		{256, []int{1, 256}, []int{1, 256}}, {256, []int{1, 257}, []int{1, 256}}, {3, []int{5, 5, 5}, []int{3, 3, 3}},
	} {
		var l []ring.Entry
		for j, w := range x.weights {
			l = append(l, ring.Entry{Name: "n" + strconv.Itoa(j), Weight: w})
		}
		r := build(t, "key", l, x.per)
		counts := make([]int, len(l))
		for _, p := range points(r) {
			counts[slices.IndexFunc(l, func(e ring.Entry) bool { return e.Name == p.name })]++
		}
		if !slices.Equal(counts, x.want) {
			t.Errorf("%d: the weights %d with %d have %d points, want %d", i, x.weights, x.per, counts, x.want)
		}
	}
}

// P19.1: what Build does not accept, and what is just within the limits.
func TestBuildErrors(t *testing.T) {
	for i, x := range []struct {
		l    []ring.Entry
		want api.Errno
	}{
		{nil, api.OK}, {[]ring.Entry{}, api.OK}, {[]ring.Entry{{"", 1}}, api.OK},
		{[]ring.Entry{{"a", math.MinInt}}, api.ErrArg}, {[]ring.Entry{{"a", -1}}, api.ErrArg}, {[]ring.Entry{{"a", 0}}, api.ErrArg}, {[]ring.Entry{{"a", 1}}, api.OK},
		{[]ring.Entry{{"a", 65535}}, api.OK}, {[]ring.Entry{{"a", 65536}}, api.ErrArg}, {[]ring.Entry{{"a", math.MaxInt}}, api.ErrArg},
		{[]ring.Entry{{"a", 1}, {"b", 0}}, api.ErrArg}, {[]ring.Entry{{"a", 65536}, {"b", 1}}, api.ErrArg}, {[]ring.Entry{{"a", 0}, {"b", 0}}, api.ErrArg},
		{[]ring.Entry{{"a", 1}, {"a", 1}}, api.ErrArg}, {[]ring.Entry{{"a", 1}, {"a", 2}}, api.ErrArg}, {[]ring.Entry{{"", 1}, {"", 1}}, api.ErrArg},
		{[]ring.Entry{{"a", 1}, {"b", 1}, {"a", 1}}, api.ErrArg}, {[]ring.Entry{{"a", 1}, {"A", 1}}, api.OK}, {[]ring.Entry{{"a", 1}, {"a#1", 1}}, api.OK},
		{equal(api.MaxBackends, 1), api.OK}, {equal(api.MaxBackends+1, 1), api.ErrArg}, {equal(20000, 1), api.ErrArg},
		{append(equal(api.MaxBackends-1, 1), ring.Entry{Name: "n0", Weight: 1}), api.ErrArg},
	} {
		for _, per := range []int{math.MinInt, 0, 1, 8, math.MaxInt} {
			r, e := ring.Build(siphash.KeyOf("key"), x.l, per)
			if e != x.want || (r == nil) != (e != api.OK) {
				t.Errorf("%d: Build of %d entries with %d: %d, want %d", i, len(x.l), per, e, x.want)
			}
		}
	}
}

// P19.1: the most entries with the most points.
func TestGreat(t *testing.T) {
	r := build(t, "key", equal(api.MaxBackends, 9), 256)
	all := points(r)
	if len(all) != 256*api.MaxBackends || !slices.IsSortedFunc(all, func(a, b point) int {
		if a.value < b.value {
			return -1
		}
		return 1
	}) {
		t.Errorf("%d points", len(all))
	}
	names := r.Walk(all[len(all)-1].value + 1)
	if len(names) != api.MaxBackends || names[0] != all[0].name {
		t.Errorf("Walk has %d names, %q first", len(names), names[0])
	}
	slices.Sort(names)
	if len(slices.Compact(names)) != api.MaxBackends {
		t.Error("a name is in a Walk twice")
	}
}

// P19.1: Point of numbers that no point has.
func TestNoPoint(t *testing.T) {
	r := build(t, "key", []ring.Entry{{"a", 1}, {"b", 1}}, 4)
	for _, i := range []int{math.MinInt, -8, -1, 8, 9, math.MaxInt} {
		if value, name := r.Point(i); value != 0 || name != "" {
			t.Errorf("Point(%d) is %#x of %q", i, value, name)
		}
	}
	for i := range 8 {
		if value, name := r.Point(i); value == 0 || name == "" {
			t.Errorf("Point(%d) is %#x of %q", i, value, name)
		}
	}
}

// P19.1: numbers at a point, before it and after it, and after the last one.
func TestPickWalk(t *testing.T) {
	r := build(t, "key", []ring.Entry{{"b", 1}, {"a", 3}, {"c", 2}}, 5)
	for _, x := range []struct {
		at   uint64
		want string
	}{
		{0, "acb"}, {0x01744b33e6d1c9bd, "acb"}, {0x01744b33e6d1c9be, "acb"}, {0x01744b33e6d1c9bf, "acb"},
		{0x815478c627dbd131, "acb"}, {0x815478c627dbd132, "cab"}, {0x8d4b56358cdadd1f, "cab"}, {0x8d4b56358cdadd20, "abc"},
		{0x9cf83b7125bb4565, "abc"}, {0x9cf83b7125bb4566, "bca"}, {0xa9a6142a96e3df99, "bca"}, {0xa9a6142a96e3df9a, "cab"},
		{0xea3e91417ef5b39a, "cab"}, {0xea3e91417ef5b39b, "acb"}, {0xf430885d467d44aa, "acb"}, {0xf430885d467d44ab, "acb"}, {math.MaxUint64, "acb"},
	} {
		check(t, r, x.at, strings.Split(x.want, ""))
	}
}

// P19.1, P19.3: points with the same value are in the order of their names.
func TestSameValue(t *testing.T) {
	for _, l := range [][]ring.Entry{{{twinOne, 1}, {twinTwo, 1}, {"a", 1}}, {{twinTwo, 1}, {"a", 1}, {twinOne, 1}}, {{"a", 1}, {twinTwo, 1}, {twinOne, 1}}} {
		r := build(t, "key", l, 1)
		if got, want := points(r), []point{{twinValue, twinOne}, {twinValue, twinTwo}, {0x815478c627dbd131, "a"}}; !slices.Equal(got, want) {
			t.Errorf("%v: %x, want %x", l, got, want)
		}
		check(t, r, twinValue-1, []string{twinOne, twinTwo, "a"})
		check(t, r, twinValue, []string{twinOne, twinTwo, "a"})
		check(t, r, twinValue+1, []string{"a", twinOne, twinTwo})
		check(t, r, math.MaxUint64, []string{twinOne, twinTwo, "a"})
	}
}

// P19.1: a ring without entries, and the zero value of a ring.
func TestEmpty(t *testing.T) {
	for _, r := range []*ring.Ring{{}, build(t, "key", nil, 8), build(t, "key", []ring.Entry{}, math.MaxInt)} {
		if r.Len() != 0 {
			t.Errorf("Len is %d", r.Len())
		}
		for _, x := range []uint64{0, 5, 1 << 63, math.MaxUint64} {
			check(t, r, x, nil)
		}
		for _, i := range []int{math.MinInt, -1, 0, 1, math.MaxInt} {
			if value, name := r.Point(i); value != 0 || name != "" {
				t.Errorf("Point(%d) is %#x of %q", i, value, name)
			}
		}
	}
}

// P19.1: a single entry has all numbers.
func TestSingle(t *testing.T) {
	for _, e := range []ring.Entry{{"a", 1}, {"", 1}, {"z\x00\xff", 65535}} {
		for _, per := range []int{1, 4, 256} {
			r := build(t, "key", []ring.Entry{e}, per)
			if r.Len() != per {
				t.Errorf("%v has %d points, want %d", e, r.Len(), per)
			}
			for _, x := range []uint64{0, 1 << 62, 1 << 63, math.MaxUint64} {
				check(t, r, x, []string{e.Name})
			}
		}
	}
}

// P19.1: the points depend on the key.
func TestKey(t *testing.T) {
	l := []ring.Entry{{"a", 1}, {"b", 1}}
	one := points(build(t, "one", l, 8))
	if slices.Equal(one, points(build(t, "two", l, 8))) {
		t.Error("the points are the same for another key")
	}
	if !slices.Equal(one, points(build(t, "one", l, 8))) {
		t.Error("the points are other ones for the same key")
	}
}

// without returns the entries without the one with the index.
func without(l []ring.Entry, i int) []ring.Entry {
	return slices.Concat(l[:i], l[i+1:])
}

// greatest returns the greatest weight.
func greatest(l []ring.Entry) int {
	most := 0
	for _, e := range l {
		most = max(most, e.Weight)
	}
	return most
}

// P19.2: without an entry, its numbers go to the next name of their walks, and all others remain.
func TestLittleChange(t *testing.T) {
	rng := rand.New(rand.NewPCG(19, 2))
	removed := 0
	for range 300 {
		l := random(rng)
		if rng.IntN(2) == 0 && len(l) > 1 { // else the greatest weight is seldom that of two
			l[0].Weight, l[1].Weight = greatest(l), greatest(l)
		}
		if rng.IntN(2) == 0 {
			l = append(l, ring.Entry{Name: twinOne, Weight: 1}, ring.Entry{Name: twinTwo, Weight: 1})
		}
		per := 1 + rng.IntN(20)
		before := build(t, "key", l, per)
		for i := range l {
			rest := without(l, i)
			if greatest(rest) != greatest(l) {
				continue
			}
			removed++
			after := build(t, "key", rest, per)
			for _, x := range numbers(rng, points(before)) {
				walk := slices.DeleteFunc(before.Walk(x), func(name string) bool { return name == l[i].Name })
				check(t, after, x, walk)
			}
		}
	}
	if removed < 500 {
		t.Errorf("only %d entries were removed", removed)
	}
}

// P19.3: every order of the entries builds the same ring.
func TestOrder(t *testing.T) {
	l := []ring.Entry{{"b", 2}, {twinTwo, 7}, {twinOne, 3}, {"ab", 9}, {"", 5}}
	want := points(build(t, "key", l, 9))
	if len(want) != 2+7+3+9+5 {
		t.Fatalf("%d points", len(want))
	}
	tried := 0
	var permute func(n int)
	permute = func(n int) {
		if n == len(l) {
			tried++
			if got := points(build(t, "key", l, 9)); !slices.Equal(got, want) {
				t.Fatalf("the ring of %v is another one", l)
			}
			return
		}
		for i := n; i < len(l); i++ {
			l[n], l[i] = l[i], l[n]
			permute(n + 1)
			l[n], l[i] = l[i], l[n]
		}
	}
	permute(0)
	if tried != 120 {
		t.Errorf("%d orders", tried)
	}
}

// Rule 5: arguments and their spare capacity remain, later changes of them are not seen, and results are new memory.
func TestMemory(t *testing.T) {
	backing := []ring.Entry{{"b", 1}, {"a", 2}, {"c", 3}, {"spare", 4}}
	l := backing[:3]
	r := build(t, "key", l, 8)
	if !slices.Equal(backing, []ring.Entry{{"b", 1}, {"a", 2}, {"c", 3}, {"spare", 4}}) {
		t.Errorf("the entries are %v after Build", backing)
	}
	all, walk := points(r), r.Walk(1)
	l[0], l[1], l[2] = ring.Entry{Name: "x", Weight: 9}, ring.Entry{Name: "y", Weight: 9}, ring.Entry{Name: "z", Weight: 9}
	for range 2 {
		if !slices.Equal(points(r), all) || !slices.Equal(r.Walk(1), walk) {
			t.Fatal("a change of the entries or of a result is seen")
		}
		names := r.Walk(1)
		for i := range names[:cap(names)] {
			names[:cap(names)][i] = "other"
		}
	}
}
