package fields_test

import (
	"slices"
	"strings"
	"testing"

	"steward/api"
	"steward/fields"
	"steward/octet"
)

// of returns the fields with the names and values, in turn.
func of(l ...string) fields.Fields {
	var out fields.Fields
	for i := 0; i < len(l); i += 2 {
		out = append(out, fields.Field{Name: l[i], Value: l[i+1]})
	}
	return out
}

// mixed has names that occur several times, in different cases, and one that only resembles them.
func mixed() fields.Fields {
	return of("Host", "a", "X", "1", "HOST", "c", "Hos", "d", "x", "2", "hosT", "a", "X", "1")
}

// equal checks that a list has exactly the names and values.
func equal(t *testing.T, got fields.Fields, l ...string) {
	t.Helper()
	if want := of(l...); !slices.Equal(got, want) {
		t.Errorf("%q, want %q", got, want)
	}
}

// P6.1: Parse, with blanks around the value and without.
func TestParse(t *testing.T) {
	for line, want := range map[string]fields.Field{
		"Host: a":                             {Name: "Host", Value: "a"},
		"a:b":                                 {Name: "a", Value: "b"},
		"a:":                                  {Name: "a"},
		"a: \t ":                              {Name: "a"},
		"a: \tb c\td \t":                      {Name: "a", Value: "b c\td"},
		"a:b:c":                               {Name: "a", Value: "b:c"},
		"a::":                                 {Name: "a", Value: ":"},
		"a: :b":                               {Name: "a", Value: ":b"},
		"HOST: Some.Where:80":                 {Name: "HOST", Value: "Some.Where:80"},
		"!#$%&'*+-.^_`|~9: \"x\", (y)":        {Name: "!#$%&'*+-.^_`|~9", Value: "\"x\", (y)"},
		strings.Repeat("n", 64) + ":v":        {Name: strings.Repeat("n", 64), Value: "v"},
		"n:" + strings.Repeat(" v", 5000):     {Name: "n", Value: strings.Repeat("v ", 4999) + "v"},
		"Set-Cookie: pin=x; Path=/; HttpOnly": {Name: "Set-Cookie", Value: "pin=x; Path=/; HttpOnly"},
	} {
		if got, e := fields.Parse(line); got != want || e != api.OK {
			t.Errorf("%q: %q, error %d", line, got, e)
		}
	}
}

// P6.1: lines that are no fields, and nothing but the error is returned for them.
func TestParseOfOtherLines(t *testing.T) {
	for _, line := range []string{
		"", "a", "a b", ":", ":b", " :b", " a:b", "a :b", "a\t:b", "a b:c", "\ta:b", "a\x00:b", "é:b", "(a):b", "a,b:c", "a@:b", "a/b:c", "\"a\":b", "a\r\n:b",
		strings.Repeat("n", 65) + ":v", "a:\x01", "a:b\r", "a:b\n", "a:b\r\n", "a:b\r\nc:d", "a:b\x00c", "a:\x7f", "a:é", "a:\x80", "a:\xff", "a: \x0b", "a:\u00a0b",
	} {
		if got, e := fields.Parse(line); got != (fields.Field{}) || e != api.ErrForm {
			t.Errorf("%q: %q, error %d", line, got, e)
		}
	}
}

// P6.1: each byte in a name and in a value is judged by layer 5.
func TestParseOfEachByte(t *testing.T) {
	for i := range 256 {
		c := string([]byte{byte(i)})
		got, e := fields.Parse("n" + c + "m: v")
		switch {
		case c == ":":
			if got != (fields.Field{Name: "n", Value: "m: v"}) || e != api.OK {
				t.Errorf("%q, error %d", got, e)
			}
		case octet.Token(c):
			if got != (fields.Field{Name: "n" + c + "m", Value: "v"}) || e != api.OK {
				t.Errorf("%q in a name: %q, error %d", c, got, e)
			}
		case got != (fields.Field{}) || e != api.ErrForm:
			t.Errorf("%q in a name: %q, error %d", c, got, e)
		}
		got, e = fields.Parse("n: v" + c + "w")
		if octet.Value("v" + c + "w") {
			if got != (fields.Field{Name: "n", Value: "v" + c + "w"}) || e != api.OK {
				t.Errorf("%q in a value: %q, error %d", c, got, e)
			}
		} else if got != (fields.Field{}) || e != api.ErrForm {
			t.Errorf("%q in a value: %q, error %d", c, got, e)
		}
	}
}

// P6.1: Line, for any names and values.
func TestLine(t *testing.T) {
	for f, want := range map[fields.Field]string{
		{Name: "Host", Value: "a b"}:     "Host: a b\r\n",
		{Name: "n"}:                      "n: \r\n",
		{}:                               ": \r\n",
		{Name: "a:\r\n", Value: " \xff"}: "a:\r\n:  \xff\r\n",
	} {
		if got := f.Line(); got != want {
			t.Errorf("%q: %q", f, got)
		}
	}
}

// P6.2: the line of a parsed field is parsed as the same field.
func TestParsedFieldsReturn(t *testing.T) {
	for _, name := range []string{"a", "HoSt", "!~", strings.Repeat("n", 64)} {
		for _, value := range []string{"", "v", " v", "v \t w\t", ":", "a:b", "\"\\\"", strings.Repeat("x", 1000), "~ !"} {
			f, e := fields.Parse(name + ":" + value)
			if e != api.OK {
				t.Fatalf("%q, %q: error %d", name, value, e)
			}
			line, ends := strings.CutSuffix(f.Line(), "\r\n")
			if got, e := fields.Parse(line); !ends || got != f || e != api.OK {
				t.Errorf("%q: %q, error %d", f, got, e)
			}
		}
	}
}

// P6.2: so is that of each short line that is parsed at all.
func TestParsedLinesReturn(t *testing.T) {
	bytes := "a:Z \t\r\n\x00\xff-"
	lines := []string{""}
	for i := 0; len(lines[i]) < 5; i++ {
		for _, c := range []byte(bytes) {
			lines = append(lines, lines[i]+string([]byte{c}))
		}
	}
	parsed := 0
	for _, line := range lines {
		f, e := fields.Parse(line)
		if e != api.OK {
			continue
		}
		parsed++
		if got, e := fields.Parse(strings.TrimSuffix(f.Line(), "\r\n")); got != f || e != api.OK {
			t.Fatalf("%q: %q, then %q, error %d", line, f, got, e)
		}
	}
	if parsed < 1000 {
		t.Errorf("only %d lines were parsed", parsed)
	}
}

// P6.2: so is that of each line that has an unusual byte somewhere.
func TestParsedBytesReturn(t *testing.T) {
	const line = "Na-m: v \tw"
	for i := range 256 {
		for at := range len(line) + 1 {
			f, e := fields.Parse(line[:at] + string([]byte{byte(i)}) + line[at:])
			if e != api.OK {
				continue
			}
			if got, e := fields.Parse(strings.TrimSuffix(f.Line(), "\r\n")); got != f || e != api.OK {
				t.Errorf("%q: %q, error %d", f, got, e)
			}
		}
	}
}

// P6.1: Get, All and Has, without regard to case.
func TestAsking(t *testing.T) {
	for _, c := range []struct {
		name string
		all  []string
	}{
		{"host", []string{"a", "c", "a"}}, {"Host", []string{"a", "c", "a"}}, {"hOST", []string{"a", "c", "a"}},
		{"x", []string{"1", "2", "1"}}, {"X", []string{"1", "2", "1"}}, {"HOS", []string{"d"}},
		{"", nil}, {"hosts", nil}, {"y", nil}, {"a", nil}, {" host", nil}, {"\xff", nil},
	} {
		var first string
		if len(c.all) > 0 {
			first = c.all[0]
		}
		if got, is := mixed().Get(c.name); got != first || is != (len(c.all) > 0) {
			t.Errorf("Get of %q: %q, %v", c.name, got, is)
		}
		if got := mixed().All(c.name); !slices.Equal(got, c.all) {
			t.Errorf("All of %q: %q", c.name, got)
		}
		if got := mixed().Has(c.name); got != (len(c.all) > 0) {
			t.Errorf("Has of %q: %v", c.name, got)
		}
	}
}

// P6.1: an empty value is one, as is an empty name; only A to Z have two cases.
func TestAskingForUnusualFields(t *testing.T) {
	l := of("a", "", "", "e", "é", "f", "\xff", "g", "k", "h")
	for name, want := range map[string]string{"a": "", "A": "", "": "e", "é": "f", "\xff": "g", "K": "h"} {
		if got, is := l.Get(name); got != want || !is || !l.Has(name) || !slices.Equal(l.All(name), []string{want}) {
			t.Errorf("%q: %q, %v", name, got, is)
		}
	}
	for _, name := range []string{"É", "\xfe", "\u212a", "[", "a "} {
		if got, is := l.Get(name); got != "" || is || l.Has(name) || len(l.All(name)) != 0 {
			t.Errorf("%q: %q, %v", name, got, is)
		}
	}
}

// P6.1: no fields have no names.
func TestAskingOfNoFields(t *testing.T) {
	for _, l := range []fields.Fields{nil, {}} {
		got, is := l.Get("")
		if got != "" || is || l.Has("") || len(l.All("")) != 0 || len(l.Tokens("")) != 0 || l.Text() != "" || l.Size() != 0 {
			t.Error("there is something")
		}
	}
}

// P6.1: Drop removes all fields of each of the names, and leaves the others in order.
func TestDrop(t *testing.T) {
	equal(t, mixed().Drop("host"), "X", "1", "Hos", "d", "x", "2", "X", "1")
	equal(t, mixed().Drop("x"), "Host", "a", "HOST", "c", "Hos", "d", "hosT", "a")
	equal(t, mixed().Drop("HOST", "y", "X"), "Hos", "d")
	equal(t, mixed().Drop("X", "x", "X"), "Host", "a", "HOST", "c", "Hos", "d", "hosT", "a")
	equal(t, mixed().Drop([]string{"X", "hos", "hOST"}...))
	for _, names := range [][]string{nil, {}, {""}, {"", "y", "1"}, {"ho*"}} {
		if got := mixed().Drop(names...); !slices.Equal(got, mixed()) {
			t.Errorf("%q: %q", names, got)
		}
	}
	equal(t, fields.Fields(nil).Drop("a"))
	equal(t, fields.Fields(nil).Drop())
	equal(t, of("", "1", "a", "2").Drop(""), "a", "2")
}

// P6.1: Set puts the field in place of the first one and removes the others, or appends it.
func TestSet(t *testing.T) {
	equal(t, of("Host", "a", "X", "1", "HOST", "c").Set("host", "b"), "host", "b", "X", "1")
	equal(t, mixed().Set("X", "n"), "Host", "a", "X", "n", "HOST", "c", "Hos", "d", "hosT", "a")
	equal(t, mixed().Set("hOS", ""), "Host", "a", "X", "1", "HOST", "c", "hOS", "", "x", "2", "hosT", "a", "X", "1")
	equal(t, of("a", "1", "b", "2").Set("c", "3"), "a", "1", "b", "2", "c", "3")
	equal(t, of("a", "1", "b", "2").Set("B", "3"), "a", "1", "B", "3")
	equal(t, of("a", "1").Set("a", "1"), "a", "1")
	equal(t, of("a", "1", "a", "2").Set("a", "3"), "a", "3")
	equal(t, fields.Fields(nil).Set("a", "1"), "a", "1")
	equal(t, of("a", "1").Set("", ""), "a", "1", "", "")
}

// P6.1: Add appends the field, whatever names there are.
func TestAdd(t *testing.T) {
	equal(t, fields.Fields(nil).Add("a", "1"), "a", "1")
	equal(t, of("a", "1").Add("A", "2"), "a", "1", "A", "2")
	equal(t, of("a", "1").Add("a", "1"), "a", "1", "a", "1")
	equal(t, of("a", "1").Add("", "\r\n"), "a", "1", "", "\r\n")
}

// P6.1: Text and Size.
func TestText(t *testing.T) {
	for _, c := range []struct {
		l    fields.Fields
		want string
	}{
		{of("Host", "a"), "Host: a\r\n"},
		{of("b", "2", "a", "1", "B", ""), "b: 2\r\na: 1\r\nB: \r\n"},
		{of("", "", "\xff", "é"), ": \r\n\xff: é\r\n"},
	} {
		if got := c.l.Text(); got != c.want || c.l.Size() != len(c.want) {
			t.Errorf("%q: %q, %d", c.l, got, c.l.Size())
		}
	}
	if n := mixed().Size(); n != len(mixed().Text()) || n != 53 {
		t.Error(n)
	}
}

// P6.1: Same distinguishes order, number, case and values.
func TestSame(t *testing.T) {
	if !mixed().Same(mixed()) || !fields.Fields(nil).Same(fields.Fields{}) || !(fields.Fields{}).Same(nil) {
		t.Error("equal lists are not the same")
	}
	for _, o := range []fields.Fields{
		nil, of("a", "1"), of("b", "2", "a", "1"), of("a", "1", "b", "2", "b", "2"), of("A", "1", "b", "2"), of("a", "1", "b", "3"),
		of("a", "1", "b", ""), of("a", "1", "c", "2"), of("a", "", "1b", "2"), of("a", "x", "b", "X"), of("a", "1", "b", "2 "),
	} {
		if l := of("a", "1", "b", "2"); l.Same(o) || o.Same(l) {
			t.Errorf("%q and %q are the same", l, o)
		}
	}
	for _, p := range [][2]fields.Fields{
		{of("a", "x"), of("a", "X")},
		{of("a", "b: c"), of("a: b", "c")},
		{of("a", "1\r\nb: 2"), of("a", "1", "b", "2")},
	} {
		if p[0].Same(p[1]) || p[1].Same(p[0]) {
			t.Errorf("%q and %q are the same", p[0], p[1])
		}
	}
}

// P6.1: Tokens of all values of the name.
func TestTokens(t *testing.T) {
	l := of("Connection", "close, X-A", "a", "b", "connection", "Te,, TE ,", "CONNECTION", "", "Connections", "n")
	for _, name := range []string{"connection", "Connection", "CONNECTION"} {
		if got := l.Tokens(name); !slices.Equal(got, []string{"close", "x-a", "te", "te"}) {
			t.Errorf("%q: %q", name, got)
		}
	}
	if got := of("a", "É, \xffA;Q=1 B", "A", "Z").Tokens("a"); !slices.Equal(got, []string{"É", "\xffa;q=1 b", "z"}) {
		t.Errorf("%q", got)
	}
	for _, name := range []string{"", "x", "connectio"} {
		if got := l.Tokens(name); len(got) != 0 {
			t.Errorf("%q: %q", name, got)
		}
	}
}

// edits returns what all functions that return fields return for the list.
func edits(l fields.Fields) []fields.Fields {
	return []fields.Fields{l.Drop(), l.Drop("Host"), l.Drop("none"), l.Drop("Host", "X", "Hos"), l.Set("Host", "n"), l.Set("X", "n"), l.Set("none", "n"), l.Add("none", "n"), l.Add("Host", "n")}
}

// Rule 5: the list is left as it is, and so is its spare capacity, and the names are too.
func TestArgumentsAreLeft(t *testing.T) {
	l := mixed().Add("spare", "1").Add("spare", "2")
	before := slices.Clone(l)
	edits(l[:len(l)-2])
	edits(l[:0])
	l[:len(l)-2].Tokens("Host")
	if !slices.Equal(l, before) {
		t.Errorf("%q", l)
	}
	names := []string{"host", "X", "spare"}
	mixed().Drop(names[:2]...)
	if !slices.Equal(names, []string{"host", "X", "spare"}) {
		t.Errorf("%q", names)
	}
}

// Rule 5: results share memory neither with the list nor with each other.
func TestResultsAreNew(t *testing.T) {
	l, want := mixed(), edits(mixed())
	got := edits(l)
	for i, changed := range got {
		for j := range changed {
			changed[j] = fields.Field{Name: "changed"}
		}
		_ = append(changed, fields.Field{Name: "appended"})
		got[i] = want[i]
		for k := range got {
			if !slices.Equal(got[k], want[k]) {
				t.Fatalf("result %d changed with %d: %q", k, i, got[k])
			}
		}
	}
	if !slices.Equal(l, mixed()) {
		t.Errorf("the list changed: %q", l)
	}
	all, tokens := l.All("x"), l.Tokens("x")
	all[0], tokens[0] = "changed", "changed"
	if !slices.Equal(l.All("x"), []string{"1", "2", "1"}) || !slices.Equal(l.Tokens("x"), []string{"1", "2", "1"}) {
		t.Error("lists of values share memory")
	}
}
