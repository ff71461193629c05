package rotor_test

import (
	"math"
	"math/rand/v2"
	"slices"
	"strings"
	"testing"

	"steward/rotor"
)

// entries returns entries named a, b, c and so on, with the weights.
func entries(weights ...int) []rotor.Entry {
	var l []rotor.Entry
	for i, w := range weights {
		l = append(l, rotor.Entry{Name: nameOf(i), Weight: w})
	}
	return l
}

func nameOf(i int) string {
	return string(rune('a' + i))
}

// picks returns the names of n Picks.
func picks(t *testing.T, r *rotor.Rotor, n int, l ...rotor.Entry) string {
	t.Helper()
	var b strings.Builder
	for range n {
		name, is := r.Pick(l...)
		if !is {
			t.Fatalf("nothing is picked of %v", l)
		}
		b.WriteString(name)
	}
	return b.String()
}

// marks checks the marks of the names a, b, c and so on.
func marks(t *testing.T, r *rotor.Rotor, want ...int) {
	t.Helper()
	for i, m := range want {
		if got := r.Mark(nameOf(i)); got != m {
			t.Errorf("the mark of %s is %d, want %d", nameOf(i), got, m)
		}
	}
}

// model is a rotor by the words of the document: a list of names with their marks.
type model struct {
	names []string
	marks []int
}

func (m *model) at(name string) int {
	if i := slices.Index(m.names, name); i >= 0 {
		return i
	}
	m.names, m.marks = append(m.names, name), append(m.marks, 0)
	return len(m.names) - 1
}

func (m *model) pick(l []rotor.Entry) (string, bool) {
	var names []string
	sum := 0
	for _, e := range l {
		if !slices.Contains(names, e.Name) {
			w := e.Weight
			if w < 1 {
				w = 1
			} else if w > 65535 {
				w = 65535
			}
			names = append(names, e.Name)
			sum += w
			m.marks[m.at(e.Name)] += w
		}
	}
	for _, name := range names {
		if !slices.ContainsFunc(names, func(other string) bool { return m.marks[m.at(other)] > m.marks[m.at(name)] }) {
			m.marks[m.at(name)] -= sum
			return name, true
		}
	}
	return "", false
}

func (m *model) keep(names []string) {
	for i, name := range m.names {
		if !slices.Contains(names, name) {
			m.marks[i] = 0
		}
	}
}

// same checks all marks against those of the model.
func same(t *testing.T, r *rotor.Rotor, m *model) {
	t.Helper()
	for i, name := range m.names {
		if got := r.Mark(name); got != m.marks[i] {
			t.Fatalf("the mark of %q is %d, want %d", name, got, m.marks[i])
		}
	}
}

// P15.1: the example of the document, and some others with the marks that remain.
func TestPick(t *testing.T) {
	for _, x := range []struct {
		weights []int
		n       int
		want    string
		marks   []int
	}{
		{[]int{5, 1, 1}, 7, "aabacaa", []int{0, 0, 0}},
		{[]int{5, 1, 1}, 3, "aab", []int{1, -4, 3}},
		{[]int{2, 1}, 3, "aba", []int{0, 0}},
		{[]int{1, 2}, 3, "bab", []int{0, 0}},
		{[]int{1, 1, 1}, 5, "abcab", []int{-1, -1, 2}},
		{[]int{3, 3}, 4, "abab", []int{0, 0}},
		{[]int{9}, 3, "aaa", []int{0}},
		{[]int{1, 5, 1, 3}, 10, "bdbabdcbdb", []int{0, 0, 0, 0}},
	} {
		for _, r := range []*rotor.Rotor{rotor.New(), {}} {
			if got := picks(t, r, x.n, entries(x.weights...)...); got != x.want {
				t.Errorf("%d of %d: %s, want %s", x.n, x.weights, got, x.want)
			}
			marks(t, r, x.marks...)
		}
	}
}

// P15.1: no entry, before other calls and after them, changes nothing.
func TestPickOfNoEntry(t *testing.T) {
	for _, r := range []*rotor.Rotor{rotor.New(), {}} {
		for _, want := range [][]int{{0, 0}, {-1, 1}, {0, 0}} {
			for _, l := range [][]rotor.Entry{nil, {}} {
				if name, is := r.Pick(l...); name != "" || is {
					t.Errorf("%q, %v", name, is)
				}
			}
			marks(t, r, want...)
			r.Pick(entries(1, 1)...)
		}
	}
}

// P15.1: a weight is limited to 1 to 65535.
func TestWeightsAreLimited(t *testing.T) {
	for _, x := range []struct{ weight, counts int }{
		{math.MinInt, 1}, {-65536, 1}, {-1, 1}, {0, 1}, {1, 1}, {2, 2}, {65534, 65534}, {65535, 65535}, {65536, 65535}, {1 << 32, 65535}, {1<<32 + 3, 65535}, {math.MaxInt, 65535},
	} {
		r := rotor.New()
		if got := picks(t, r, 1, entries(65535, x.weight)...); got != "a" {
			t.Errorf("weight %d: %s", x.weight, got)
		}
		marks(t, r, -x.counts, x.counts)
		r = rotor.New()
		if got, want := picks(t, r, 1, entries(1, x.weight)...), nameOf(min(x.counts-1, 1)); got != want {
			t.Errorf("weight %d: %s, want %s", x.weight, got, want)
		}
	}
	r := rotor.New()
	r.Pick(rotor.Entry{Name: "a", Weight: -5})
	marks(t, r, 0)
}

// P15.1: only the first entry of a name counts, wherever the other ones are.
func TestOnlyTheFirstOfAName(t *testing.T) {
	a, b := rotor.Entry{Name: "a", Weight: 2}, rotor.Entry{Name: "b", Weight: 3}
	more := []rotor.Entry{{Name: "a", Weight: 900}, {Name: "b", Weight: -7}, {Name: "a", Weight: 1}, {Name: "a", Weight: 2}}
	for _, l := range [][]rotor.Entry{{a, b}, append([]rotor.Entry{a, b}, more...), {a, more[0], b, more[1]}, {a, a, a, b, b}} {
		r := rotor.New()
		if got := picks(t, r, 1, l...); got != "b" {
			t.Errorf("%v: %s", l, got)
		}
		marks(t, r, 2, -2)
		if got := picks(t, r, 4, l...); got != "abab" {
			t.Errorf("%v: %s", l, got)
		}
		marks(t, r, 0, 0)
	}
}

// P15.1: of equal marks, the first one of the list is selected, whatever was selected before.
func TestFirstOfEqualMarks(t *testing.T) {
	for _, x := range []struct{ order, want string }{{"abc", "a"}, {"acb", "a"}, {"bac", "b"}, {"cba", "c"}} {
		r := rotor.New()
		var l []rotor.Entry
		for _, name := range strings.Split(x.order, "") {
			l = append(l, rotor.Entry{Name: name, Weight: 4})
		}
		if got := picks(t, r, 1, l...); got != x.want {
			t.Errorf("%s: %s", x.order, got)
		}
	}
	r := rotor.New()
	r.Pick(entries(1, 1, 1)...) // -2, 1, 1
	c, b := rotor.Entry{Name: "c", Weight: 1}, rotor.Entry{Name: "b", Weight: 1}
	if got := picks(t, r, 1, c, b); got != "c" {
		t.Errorf("%s", got)
	}
	marks(t, r, -2, 2, 0)
}

// P15.1: the marks of other names remain as they are and are not selected, and count again when they return.
func TestMarksOfOtherNamesRemain(t *testing.T) {
	r := rotor.New()
	all := entries(5, 1, 1)
	r.Pick(all...)
	marks(t, r, -2, 1, 1)
	if got := picks(t, r, 3, all[0]); got != "aaa" {
		t.Errorf("%s", got)
	}
	marks(t, r, -2, 1, 1)
	if got := picks(t, r, 2, all[0], all[2]); got != "ac" {
		t.Errorf("%s", got)
	}
	marks(t, r, 2, 1, -3)
	if got := picks(t, r, 3, all...); got != "aab" {
		t.Errorf("%s", got)
	}
	marks(t, r, 3, -3, 0)
}

// P15.1: weights may change between the Picks.
func TestWeightsChange(t *testing.T) {
	r := rotor.New()
	got := picks(t, r, 1, entries(10, 1)...)
	marks(t, r, -1, 1)
	got += picks(t, r, 1, entries(1, 10)...)
	marks(t, r, 0, 0)
	got += picks(t, r, 1, entries(1, 10)...)
	marks(t, r, 1, -1)
	got += picks(t, r, 1, entries(1, 1)...)
	marks(t, r, 0, 0)
	if got != "abba" {
		t.Errorf("%s", got)
	}
}

// P15.1: names are any bytes, in exact letters; the empty one is a name, too.
func TestNamesAreAnyBytes(t *testing.T) {
	names := []string{"", "a", "A", "a\x00", "\xff\xfe", "é", strings.Repeat("x", 100)}
	var l []rotor.Entry
	for i, name := range names {
		l = append(l, rotor.Entry{Name: name, Weight: i + 1})
	}
	r, m := rotor.New(), &model{}
	for range 60 {
		want, _ := m.pick(l)
		if got, is := r.Pick(l...); got != want || !is {
			t.Fatalf("%q, %v, want %q", got, is, want)
		}
		same(t, r, m)
	}
	if got, is := rotor.New().Pick(l[0]); got != "" || !is {
		t.Errorf("%q, %v", got, is)
	}
}

// P15.1: a name that never occurred has the mark 0.
func TestMark(t *testing.T) {
	for _, r := range []*rotor.Rotor{rotor.New(), {}} {
		for range 2 {
			for _, name := range []string{"", "x", "A"} {
				if got := r.Mark(name); got != 0 {
					t.Errorf("the mark of %q is %d", name, got)
				}
			}
			picks(t, r, 1, entries(1, 2)...)
			marks(t, r, 1, -1)
			picks(t, r, 2, entries(1, 2)...)
			marks(t, r, 0, 0)
		}
	}
}

// P15.1: all marks but those of the names become 0; a name need not have one, and may occur twice.
func TestKeep(t *testing.T) {
	for _, x := range []struct {
		names []string
		want  []int
	}{
		{nil, []int{0, 0, 0}}, {[]string{}, []int{0, 0, 0}}, {[]string{"a"}, []int{-2, 0, 0}}, {[]string{"b"}, []int{0, 1, 0}},
		{[]string{"c", "a"}, []int{-2, 0, 1}}, {[]string{"a", "b", "c"}, []int{-2, 1, 1}}, {[]string{"b", "b"}, []int{0, 1, 0}},
		{[]string{"x", "A", ""}, []int{0, 0, 0}}, {[]string{"x", "b", "d"}, []int{0, 1, 0}},
	} {
		r := rotor.New()
		r.Pick(entries(5, 1, 1)...)
		for range 2 {
			r.Keep(x.names...)
			marks(t, r, append(x.want, 0)...)
		}
	}
	for _, r := range []*rotor.Rotor{rotor.New(), {}} {
		r.Keep("a")
		r.Keep()
		marks(t, r, 0, 0)
		if got := picks(t, r, 7, entries(5, 1, 1)...); got != "aabacaa" {
			t.Errorf("%s", got)
		}
	}
}

// P15.1: after Keep, the Picks go on with the marks that remain.
func TestPickAfterKeep(t *testing.T) {
	r := rotor.New()
	r.Pick(entries(5, 1, 1)...)
	r.Keep("a")
	if got := picks(t, r, 1, entries(2, 1, 1)...); got != "b" {
		t.Errorf("%s", got)
	}
	marks(t, r, 0, -3, 1)
	r.Keep()
	if got := picks(t, r, 7, entries(5, 1, 1)...); got != "aabacaa" {
		t.Errorf("%s", got)
	}
}

// P15.1: what is done to a rotor is not seen in its copy, and the other way round.
func TestClone(t *testing.T) {
	l := entries(5, 1, 1)
	for _, r := range []*rotor.Rotor{rotor.New(), {}} {
		for i := range 8 {
			c := r.Clone()
			for j := range 3 {
				if r.Mark(nameOf(j)) != c.Mark(nameOf(j)) {
					t.Errorf("after %d: the marks of %s are %d and %d", i, nameOf(j), r.Mark(nameOf(j)), c.Mark(nameOf(j)))
				}
			}
			before := []int{r.Mark("a"), r.Mark("b"), r.Mark("c")}
			picks(t, c, 3, entries(1, 2, 9)...)
			marks(t, r, before...)
			c = r.Clone()
			c.Keep()
			marks(t, r, before...)
			marks(t, c, 0, 0, 0)
			c = r.Clone()
			if got, want := picks(t, r, 1, l...), "aabacaaa"[i:i+1]; got != want {
				t.Errorf("after %d: %s, want %s", i, got, want)
			}
			marks(t, c, before...)
			kept := r.Clone()
			r.Keep()
			marks(t, c, before...)
			r = kept
		}
	}
}

// P15.1: each method, against the words of the document, after any calls.
func TestAnyCalls(t *testing.T) {
	random := rand.New(rand.NewPCG(15, 1))
	weights := []int{math.MinInt, -1, 0, 1, 1, 2, 3, 5, 100, 65534, 65535, 65536, math.MaxInt}
	for range 200 {
		r, m := rotor.New(), &model{}
		for range 200 {
			switch k := random.IntN(20); k {
			case 0:
				names := make([]string, random.IntN(5))
				for i := range names {
					names[i] = nameOf(random.IntN(7))
				}
				r.Keep(names...)
				m.keep(names)
			case 1:
				r = r.Clone()
			default:
				l := make([]rotor.Entry, random.IntN(8))
				for i := range l {
					l[i] = rotor.Entry{Name: nameOf(random.IntN(7)), Weight: weights[random.IntN(len(weights))]}
				}
				want, wantIs := m.pick(l)
				if got, is := r.Pick(l...); got != want || is != wantIs {
					t.Fatalf("Pick(%v) = %s, %v, want %s", l, got, is, want)
				}
			}
			same(t, r, m)
		}
	}
}

// round checks one round of Picks with the same entries: how often each name is selected, all marks on the way, and those at the end.
func round(t *testing.T, r *rotor.Rotor, weights ...int) {
	t.Helper()
	sum := 0
	for _, w := range weights {
		sum += w
	}
	l, times := entries(weights...), make([]int, len(weights))
	for range sum {
		name, is := r.Pick(l...)
		if !is {
			t.Fatalf("%d: nothing", weights)
		}
		times[name[0]-'a']++
		for i := range weights {
			if m := r.Mark(nameOf(i)); m <= -sum {
				t.Fatalf("%d: the mark of %s is %d", weights, nameOf(i), m)
			}
		}
	}
	if !slices.Equal(times, weights) {
		t.Errorf("%d: selected %d", weights, times)
	}
	marks(t, r, make([]int, len(weights))...)
}

// P15.2, P15.3: all lists of up to four small weights, in three rounds.
func TestRound(t *testing.T) {
	r := rotor.New()
	for a := 1; a < 8; a++ {
		for b := 1; b < 8; b++ {
			for c := 1; c < 8; c++ {
				for range 3 {
					round(t, r, a)
					round(t, r, a, b)
					round(t, r, a, b, c)
					round(t, r, a, b, c, (a+b+c)%5+1)
				}
			}
		}
	}
}

// P15.2, P15.3: some longer lists and greater weights.
func TestGreatRounds(t *testing.T) {
	round(t, rotor.New(), 65535)
	round(t, rotor.New(), 65535, 65535)
	round(t, rotor.New(), 1, 65535, 1)
	round(t, rotor.New(), 65535, 65534, 32768, 3)
	random := rand.New(rand.NewPCG(15, 2))
	for n := range 26 {
		weights := make([]int, n)
		for i := range weights {
			weights[i] = random.IntN(200) + 1
		}
		round(t, rotor.New(), weights...)
	}
}

// P15.2: marks of names that are not in the list do not disturb a round, and remain.
func TestRoundBesideOtherMarks(t *testing.T) {
	r := rotor.New()
	r.Pick(rotor.Entry{Name: "x", Weight: 9}, rotor.Entry{Name: "y", Weight: 4})
	round(t, r, 5, 1, 1)
	if r.Mark("x") != -4 || r.Mark("y") != 4 {
		t.Errorf("%d, %d", r.Mark("x"), r.Mark("y"))
	}
}

// P15.3: the bound is met within one, so it is the sum of the limited weights of the entries that count.
func TestLeastMark(t *testing.T) {
	r := rotor.New()
	l := make([]rotor.Entry, 0, 26)
	for i := range 26 {
		l = append(l, rotor.Entry{Name: nameOf(i), Weight: -i})
	}
	l = append(l, l...)
	r.Pick(l...)
	marks(t, r, -25, 1, 1)
	for range 3 * 26 {
		r.Pick(l...)
		for i := range 26 {
			if m := r.Mark(nameOf(i)); m <= -26 {
				t.Fatalf("the mark of %s is %d", nameOf(i), m)
			}
		}
	}
}

// Rule 5: lists are left as they are, also behind their ends, and a later change of them is not seen.
func TestListsAreLeft(t *testing.T) {
	l := []rotor.Entry{{Name: "a", Weight: -1}, {Name: "b", Weight: 1 << 20}, {Name: "a", Weight: 3}, {Name: "x", Weight: 7}}
	before := slices.Clone(l)
	r := rotor.New()
	r.Pick(l[:3]...)
	if !slices.Equal(l, before) {
		t.Errorf("%v", l)
	}
	clear(l)
	marks(t, r, 1, -1)
	names := []string{"b", "a", "x"}
	r.Keep(names[:1]...)
	if !slices.Equal(names, []string{"b", "a", "x"}) {
		t.Errorf("%q", names)
	}
	clear(names)
	marks(t, r, 0, -1)
}
