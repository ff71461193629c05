package maglev_test

import (
	"math"
	"math/bits"
	"math/rand/v2"
	"slices"
	"strconv"
	"strings"
	"testing"

	"steward/api"
	"steward/maglev"
	"steward/prime"
	"steward/siphash"
)

// build returns a table that must not be an error.
func build(t *testing.T, secret string, l []maglev.Entry, m int) *maglev.Table {
	t.Helper()
	x, e := maglev.Build(siphash.KeyOf(secret), l, m)
	if e != api.OK || x == nil {
		t.Fatalf("Build of %v with %d places: %d", l, m, e)
	}
	return x
}

// equal returns n entries with the same weight.
func equal(n, weight int) []maglev.Entry {
	var l []maglev.Entry
	for i := range n {
		l = append(l, maglev.Entry{Name: "n" + strconv.Itoa(i), Weight: weight})
	}
	return l
}

// owners returns the name at each place.
func owners(x *maglev.Table) []string {
	var l []string
	for place := range x.Size() {
		l = append(l, x.At(place))
	}
	return l
}

// model returns the name at each place by the words of the document, from whole rows.
func model(secret string, l []maglev.Entry, m int) []string {
	l = slices.Clone(l)
	slices.SortFunc(l, func(a, b maglev.Entry) int { return strings.Compare(a.Name, b.Name) })
	key := siphash.KeyOf(secret)
	places := make([]string, m)
	assigned := make([]bool, m)
	rows := make([][]int, len(l))
	owed := make([]int, len(l))
	greatest := 0
	for i, e := range l {
		rows[i] = prime.Row(m, siphash.Below(key.Sum("offset", e.Name), m), 1+siphash.Below(key.Sum("step", e.Name), m-1))
		greatest = max(greatest, e.Weight)
	}
	if len(l) == 0 {
		return places
	}
	for left := m; ; {
		for i, e := range l {
			owed[i] += e.Weight
			if owed[i] >= greatest {
				owed[i] -= greatest
				for assigned[rows[i][0]] {
					rows[i] = rows[i][1:]
				}
				places[rows[i][0]], assigned[rows[i][0]] = e.Name, true
				left--
			}
			if left == 0 {
				return places
			}
		}
	}
}

// P18.1: tables that were computed by another program.
func TestBuildExamples(t *testing.T) {
	for _, x := range []struct {
		secret string
		l      []maglev.Entry
		m      int
		want   string
	}{
		{"key", []maglev.Entry{{"b", 1}, {"a", 1}}, 211,
			"0111001100110001110010001111100000111100000111001100111001110010000111110000111100000111001100011001111010000111110000111101000011101100011000111011000111100000111101000011101100011000111011000111100000011111000"},
		{"key", []maglev.Entry{{"b", 1}, {"a", 1}, {"c", 2}}, 307,
			"0212210020201022220202220120221021212002022102202220212212122202121020212220120222021222002222100101221212202022222101220212220010122021022012222210102201220211012122101221222202010122101022111212210122211020221012120102221120212012122102022201202210122211022221012020102221120212012220102021200212210122200"},
		{"a secret that is longer than 16", []maglev.Entry{{"one", 3}, {"", 5}}, 211,
			"1000000000000001111100111000110000100001000001111001110001100011000000000001110111100111000100000000000001111111001100011000010000000001111100111000110000100001000000111011110011100011000000000000110111100110000"},
		{"", []maglev.Entry{{"x", 65535}, {"y", 300}}, 211, strings.Repeat("0", 211)},
	} {
		table := build(t, x.secret, x.l, x.m)
		names := table.Names()
		for place := range x.m {
			if want := names[x.want[place]-'0']; table.At(place) != want {
				t.Fatalf("%v: place %d is that of %q, want %q", x.l, place, table.At(place), want)
			}
		}
		for i, n := range table.Shares() {
			if want := strings.Count(x.want, strconv.Itoa(i)); n != want {
				t.Errorf("%v: the share of %q is %d, want %d", x.l, names[i], n, want)
			}
		}
	}
}

// random returns up to 8 entries with names of any bytes.
func random(rng *rand.Rand) []maglev.Entry {
	var l []maglev.Entry
	for range rng.IntN(9) {
		name := make([]byte, rng.IntN(20))
		for i := range name {
			name[i] = byte(rng.Uint32())
		}
		e := maglev.Entry{Name: string(name), Weight: 1 + rng.IntN(api.MaxWeight)>>rng.IntN(16)}
		if !slices.ContainsFunc(l, func(o maglev.Entry) bool { return o.Name == e.Name }) {
			l = append(l, e)
		}
	}
	return l
}

// P18.1, P18.2: places, names and shares of random entries with random keys.
func TestBuildRandom(t *testing.T) {
	rng := rand.New(rand.NewPCG(18, 1))
	for range 400 {
		l := random(rng)
		secret := strconv.Itoa(rng.Int())
		m := prime.Next(100*len(l) + rng.IntN(700))
		table := build(t, secret, l, m)
		want := model(secret, l, m)
		if got := owners(table); !slices.Equal(got, want) {
			t.Fatalf("%v with %d places: %q, want %q", l, m, got, want)
		}
		var names []string
		for _, e := range l {
			names = append(names, e.Name)
		}
		slices.Sort(names)
		if table.Size() != m || !slices.Equal(table.Names(), names) {
			t.Fatalf("Size %d of %d, Names %q of %q", table.Size(), m, table.Names(), names)
		}
		shares := make([]int, len(names))
		sum := 0
		for _, name := range want {
			if i := slices.Index(names, name); i >= 0 {
				shares[i]++
				sum++
			}
		}
		if !slices.Equal(table.Shares(), shares) || len(l) > 0 && sum != m {
			t.Fatalf("%v with %d places: Shares %d, want %d", l, m, table.Shares(), shares)
		}
	}
}

// P18.1: what Build does not accept, and what is just within the limits.
func TestBuildErrors(t *testing.T) {
	one := []maglev.Entry{{"a", 1}}
	for i, x := range []struct {
		l    []maglev.Entry
		m    int
		want api.Errno
	}{
		{nil, math.MinInt, api.ErrArg}, {nil, -7, api.ErrArg}, {nil, 0, api.ErrArg}, {nil, 1, api.ErrArg}, {nil, 2, api.OK}, {nil, 3, api.OK}, {nil, 4, api.ErrArg},
		{nil, 1048573, api.OK}, {nil, 1048576, api.ErrArg}, {nil, 1048583, api.ErrArg}, {nil, math.MaxInt, api.ErrArg},
		{one, 97, api.ErrArg}, {one, 100, api.ErrArg}, {one, 101, api.OK}, {one, 102, api.ErrArg}, {one, 1048573, api.OK}, {one, 1048583, api.ErrArg},
		{[]maglev.Entry{{"a", 0}}, 101, api.ErrArg}, {[]maglev.Entry{{"a", -1}}, 101, api.ErrArg}, {[]maglev.Entry{{"a", math.MinInt}}, 101, api.ErrArg},
		{[]maglev.Entry{{"a", 65535}}, 101, api.OK}, {[]maglev.Entry{{"a", 65536}}, 101, api.ErrArg}, {[]maglev.Entry{{"a", math.MaxInt}}, 101, api.ErrArg},
		{[]maglev.Entry{{"a", 1}, {"b", 0}}, 211, api.ErrArg}, {[]maglev.Entry{{"a", 65536}, {"b", 1}}, 211, api.ErrArg},
		{[]maglev.Entry{{"a", 1}, {"a", 1}}, 211, api.ErrArg}, {[]maglev.Entry{{"a", 1}, {"a", 2}}, 211, api.ErrArg},
		{[]maglev.Entry{{"a", 1}, {"b", 1}, {"a", 1}}, 307, api.ErrArg}, {[]maglev.Entry{{"", 1}, {"", 1}}, 211, api.ErrArg},
		{[]maglev.Entry{{"a", 1}, {"A", 1}}, 211, api.OK}, {[]maglev.Entry{{"", 1}}, 101, api.OK},
		{equal(2, 1), 199, api.ErrArg}, {equal(2, 1), 200, api.ErrArg}, {equal(2, 1), 211, api.OK},
		{equal(10, 1), 997, api.ErrArg}, {equal(10, 1), 1009, api.OK},
		{equal(api.MaxBackends, 1), 102397, api.ErrArg}, {equal(api.MaxBackends, 1), 102407, api.OK},
		{equal(api.MaxBackends+1, 1), 102503, api.ErrArg}, {equal(api.MaxBackends+1, 1), 1048573, api.ErrArg},
		{equal(20000, 1), 1048573, api.ErrArg},
	} {
		got, e := maglev.Build(siphash.KeyOf("key"), x.l, x.m)
		if e != x.want || (got == nil) != (e != api.OK) {
			t.Errorf("%d: Build of %d entries with %d places: %d, want %d", i, len(x.l), x.m, e, x.want)
		}
		if e == api.OK && got.Size() != x.m {
			t.Errorf("%d: Size is %d", i, got.Size())
		}
	}
}

// P18.1: At of all places, and of those that are none.
func TestAt(t *testing.T) {
	table := build(t, "key", []maglev.Entry{{"a", 1}, {"b", 3}}, 211)
	for place := range 211 {
		if name := table.At(place); name != "a" && name != "b" {
			t.Errorf("At(%d) is %q", place, name)
		}
	}
	for _, place := range []int{math.MinInt, -211, -1, 211, 212, 422, math.MaxInt} {
		if name := table.At(place); name != "" {
			t.Errorf("At(%d) is %q", place, name)
		}
	}
}

// lowest returns the least x for which Below(x, m) is the place.
func lowest(place, m int) uint64 {
	quotient, rest := bits.Div64(uint64(place), 0, uint64(m))
	if rest > 0 {
		quotient++
	}
	return quotient
}

// P18.1: Pick and Walk begin at the place of the number, for the least and the greatest number of each place.
func TestPickWalk(t *testing.T) {
	for _, l := range [][]maglev.Entry{{{"a", 1}}, {{"c", 4}, {"a", 1}, {"b", 2}}, {{"x", 65535}, {"y", 700}, {"z", 300}}, {{"b", 1}, {"", 1}}} {
		m := prime.Next(100 * len(l))
		table := build(t, "key", l, m)
		names := owners(table)
		for place := range m {
			var want []string
			for i := range m {
				if name := names[(place+i)%m]; !slices.Contains(want, name) {
					want = append(want, name)
				}
			}
			for _, x := range []uint64{lowest(place, m), lowest((place+1)%m, m) - 1} {
				if got := table.Pick(x); got != names[place] {
					t.Fatalf("Pick(%d) is %q, want %q of place %d", x, got, names[place], place)
				}
				if got := table.Walk(x); !slices.Equal(got, want) {
					t.Fatalf("Walk(%d) is %q, want %q from place %d on", x, got, want, place)
				}
			}
		}
	}
}

// P18.1: a name whose weight is too small for a place is a name with a share of 0, and in no Walk.
func TestNoPlace(t *testing.T) {
	for _, l := range [][]maglev.Entry{{{"x", 65535}, {"y", 300}}, {{"b", 1}, {"a", 65535}}} {
		table := build(t, "key", l, 211)
		if len(table.Names()) != 2 || !slices.Equal(table.Shares(), []int{211, 0}) {
			t.Errorf("%v: Names %q, Shares %d", l, table.Names(), table.Shares())
		}
		for _, x := range []uint64{0, 1 << 63, math.MaxUint64} {
			if got := table.Walk(x); !slices.Equal(got, table.Names()[:1]) {
				t.Errorf("%v: Walk(%d) is %q", l, x, got)
			}
		}
	}
}

// P18.1: a table without entries, and the zero value of a table.
func TestEmpty(t *testing.T) {
	for _, m := range []int{0, 2, 101, 1048573} {
		table := &maglev.Table{}
		if m > 0 {
			table = build(t, "key", nil, m)
		}
		if table.Size() != m || len(table.Names()) != 0 || len(table.Shares()) != 0 {
			t.Errorf("Size %d of %d, Names %q, Shares %d", table.Size(), m, table.Names(), table.Shares())
		}
		for _, x := range []uint64{0, 5, 1 << 63, math.MaxUint64} {
			if table.Pick(x) != "" || len(table.Walk(x)) != 0 {
				t.Errorf("with %d places, Pick is %q, Walk %q", m, table.Pick(x), table.Walk(x))
			}
		}
		for _, place := range []int{-1, 0, 1, m - 1, m} {
			if table.At(place) != "" {
				t.Errorf("with %d places, At(%d) is %q", m, place, table.At(place))
			}
		}
	}
}

// P18.2: with equal weights, each place is assigned, and the shares are as equal as can be.
func TestFull(t *testing.T) {
	for n := 1; n <= 40; n++ {
		for _, m := range []int{prime.Next(100 * n), prime.Next(101*n + 50)} {
			for _, weight := range []int{1, 7, api.MaxWeight} {
				table := build(t, strconv.Itoa(weight), equal(n, weight), m)
				if slices.Contains(owners(table), "") {
					t.Fatalf("%d entries: a place is not assigned", n)
				}
				shares := table.Shares()
				if len(shares) != n || slices.Max(shares)-slices.Min(shares) > 1 || slices.Min(shares) != m/n {
					t.Fatalf("%d entries: Shares %d", n, shares)
				}
			}
		}
	}
}

// P18.2: the most entries, and the most places, with weights that differ as much as possible.
func TestFullGreat(t *testing.T) {
	l := equal(api.MaxBackends, 1)
	for _, m := range []int{102407, 1048573} {
		shares := build(t, "key", l, m).Shares()
		if len(shares) != len(l) || slices.Min(shares) != m/len(l) || slices.Max(shares) != m/len(l)+1 {
			t.Errorf("%d places: shares from %d to %d", m, slices.Min(shares), slices.Max(shares))
		}
	}
	l[77].Weight = api.MaxWeight
	table := build(t, "key", l, 102407)
	sum := 0
	for i, n := range table.Shares() {
		heavy := table.Names()[i] == l[77].Name
		if heavy != (n > 1) {
			t.Errorf("the share of %q is %d", table.Names()[i], n)
		}
		sum += n
	}
	if sum != 102407 {
		t.Errorf("%d places are assigned", sum)
	}
}

// P18.2: shares are proportional to the weights.
func TestWeights(t *testing.T) {
	table := build(t, "key", []maglev.Entry{{"a", 2}, {"b", 3}, {"c", 5}}, 1009)
	for i, want := range []int{202, 303, 505} {
		if n := table.Shares()[i]; n < want-3 || n > want+3 {
			t.Errorf("the share of %s is %d, want about %d", table.Names()[i], n, want)
		}
	}
	again := build(t, "key", []maglev.Entry{{"a", 20}, {"b", 30}, {"c", 50}}, 1009)
	if !slices.Equal(owners(table), owners(again)) {
		t.Error("the table is another one for tenfold weights")
	}
}

// P18.3: every order of the entries builds the same table.
func TestOrder(t *testing.T) {
	l := []maglev.Entry{{"b", 2}, {"a", 7}, {"B", 1}, {"ab", 65535}, {"", 1000}}
	m := prime.Next(600)
	want := owners(build(t, "key", l, m))
	tried := 0
	var permute func(n int)
	permute = func(n int) {
		if n == len(l) {
			tried++
			table := build(t, "key", l, m)
			if !slices.Equal(owners(table), want) || !slices.Equal(table.Names(), []string{"", "B", "a", "ab", "b"}) {
				t.Fatalf("the table of %v is another one", l)
			}
			return
		}
		for i := n; i < len(l); i++ {
			l[n], l[i] = l[i], l[n]
			permute(n + 1)
			l[n], l[i] = l[i], l[n]
		}
	}
	permute(0)
	if tried != 120 {
		t.Errorf("%d orders", tried)
	}
}

// P18.3: a single entry has all places.
func TestSingle(t *testing.T) {
	for _, m := range []int{101, 65537, 1048573} {
		for _, e := range []maglev.Entry{{"a", 1}, {"", 1}, {"z\x00\xff", 65535}} {
			table := build(t, "key", []maglev.Entry{e}, m)
			if !slices.Equal(table.Shares(), []int{m}) || table.At(0) != e.Name || table.At(m-1) != e.Name || table.Pick(1<<62) != e.Name {
				t.Errorf("%v has %d of %d places", e, table.Shares(), m)
			}
			if !slices.Equal(table.Walk(12345), []string{e.Name}) {
				t.Errorf("Walk is %q", table.Walk(12345))
			}
		}
	}
}

// P18.1: the table depends on the key, of which a longer secret's first 16 bytes are used.
func TestKey(t *testing.T) {
	l := []maglev.Entry{{"a", 1}, {"b", 1}}
	one := owners(build(t, "one", l, 211))
	if slices.Equal(one, owners(build(t, "two", l, 211))) {
		t.Error("the table is the same for another key")
	}
	if !slices.Equal(one, owners(build(t, "one", l, 211))) {
		t.Error("the table is another one for the same key")
	}
}

// Rule 5: arguments and their spare capacity remain, later changes of them are not seen, and results are new memory.
func TestMemory(t *testing.T) {
	backing := []maglev.Entry{{"b", 1}, {"a", 2}, {"c", 3}, {"spare", 4}}
	l := backing[:3]
	table := build(t, "key", l, 307)
	if !slices.Equal(backing, []maglev.Entry{{"b", 1}, {"a", 2}, {"c", 3}, {"spare", 4}}) {
		t.Errorf("the entries are %v after Build", backing)
	}
	want := owners(table)
	walk, shares := table.Walk(1), table.Shares()
	l[0], l[1], l[2] = maglev.Entry{"x", 9}, maglev.Entry{"y", 9}, maglev.Entry{"z", 9}
	for range 2 {
		if !slices.Equal(owners(table), want) || !slices.Equal(table.Names(), []string{"a", "b", "c"}) || !slices.Equal(table.Walk(1), walk) || !slices.Equal(table.Shares(), shares) {
			t.Fatal("a change of the entries or of a result is seen")
		}
		for _, names := range [][]string{table.Names(), table.Walk(1)} {
			for i := range names[:cap(names)] {
				names[:cap(names)][i] = "other"
			}
		}
		n := table.Shares()
		for i := range n[:cap(n)] {
			n[:cap(n)][i] = -1
		}
	}
}
