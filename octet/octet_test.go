package octet_test

import (
	"slices"
	"strings"
	"testing"

	"steward/octet"
)

const (
	small = "abcdefghijklmnopqrstuvwxyz"
	great = "ABCDEFGHIJKLMNOPQRSTUVWXYZ"
	// tokenBytes are all bytes of tokens, and visible all bytes from 33 to 126.
	tokenBytes = small + great + "0123456789" + "!#$%&'*+-.^_`|~"
	visible    = "!\"#$%&'()*+,-./0123456789:;<=>?@ABCDEFGHIJKLMNOPQRSTUVWXYZ[\\]^_`abcdefghijklmnopqrstuvwxyz{|}~"
)

// every calls f with each byte, as a string.
func every(f func(c string)) {
	for i := range 256 {
		f(string([]byte{byte(i)}))
	}
}

// P5.1: each byte, wherever it is in a token.
func TestTokenOfEachByte(t *testing.T) {
	every(func(c string) {
		want := strings.Contains(tokenBytes, c)
		for _, s := range []string{c, c + "ab", "a" + c + "b", "ab" + c, c + strings.Repeat("x", 63), strings.Repeat("x", 63) + c} {
			if octet.Token(s) != want {
				t.Errorf("%q: %v", s, !want)
			}
		}
	})
}

// P5.1: a token has 1 to 64 bytes.
func TestTokenOfEachLength(t *testing.T) {
	if octet.MaxToken != 64 {
		t.Error(octet.MaxToken)
	}
	for n := range 200 {
		if got := octet.Token(strings.Repeat("t", n)); got != (1 <= n && n <= 64) {
			t.Errorf("%d bytes: %v", n, got)
		}
	}
	if octet.Token("é") || octet.Token("a\u212ab") || octet.Token("GET ") || octet.Token("a b") {
		t.Error("other characters")
	}
}

// P5.1: each byte, first and elsewhere in a target.
func TestTarget(t *testing.T) {
	every(func(c string) {
		if got := octet.Target(c); got != (c == "/") {
			t.Errorf("%q alone: %v", c, got)
		}
		if got := octet.Target(c + "/a"); got != (c == "/") {
			t.Errorf("%q first: %v", c, got)
		}
		want := strings.Contains(visible, c)
		for _, s := range []string{"/" + c, "/" + c + "a", "/a?b=" + c + "&c", "/" + strings.Repeat("a", 1000) + c} {
			if octet.Target(s) != want {
				t.Errorf("%q: %v", s, !want)
			}
		}
	})
	for s, want := range map[string]bool{"": false, "/": true, "//": true, "*": false, "a/": false, "http://a/": false, " /": false, "/é": false} {
		if octet.Target(s) != want {
			t.Errorf("%q: %v", s, !want)
		}
	}
}

// P5.1: each byte, at the ends of a value and within it.
func TestValue(t *testing.T) {
	every(func(c string) {
		outside, inside := strings.Contains(visible, c), strings.Contains(visible+" \t", c)
		for _, s := range []string{c, c + "a", "a" + c, c + " a", "a\t" + c, c + c} {
			if octet.Value(s) != outside {
				t.Errorf("%q: %v", s, !outside)
			}
		}
		for _, s := range []string{"a" + c + "b", "a \t" + c + " b", strings.Repeat("a", 1000) + c + "b"} {
			if octet.Value(s) != inside {
				t.Errorf("%q: %v", s, !inside)
			}
		}
	})
	for s, want := range map[string]bool{"": true, " ": false, "\t": false, " \t ": false, "a": true, "text/plain; q=\"1\"": true, "é": false, "a\r\nb": false} {
		if octet.Value(s) != want {
			t.Errorf("%q: %v", s, !want)
		}
	}
}

// P5.1: Lower changes the letters A to Z and nothing else.
func TestLower(t *testing.T) {
	every(func(c string) {
		want := c
		if i := strings.Index(great, c); i >= 0 {
			want = small[i : i+1]
		}
		for _, around := range [][2]string{{"", ""}, {"x", "y"}, {"\xff", "\xc3"}, {"é", "É"}} {
			if got := octet.Lower(around[0] + c + around[1]); got != around[0]+want+around[1] {
				t.Errorf("%q: %q", around[0]+c+around[1], got)
			}
		}
	})
	for s, want := range map[string]string{"": "", "Content-LENGTH": "content-length", "@AZ[": "@az[", "ÀÉ\u212a\u0130": "ÀÉ\u212a\u0130", "\xc0\x80A": "\xc0\x80a"} {
		if got := octet.Lower(s); got != want {
			t.Errorf("%q: %q", s, got)
		}
	}
}

// P5.1: Fold of each pair of bytes.
func TestFoldOfBytes(t *testing.T) {
	every(func(a string) {
		every(func(b string) {
			i, j := strings.Index(small, a), strings.Index(great, b)
			k, l := strings.Index(great, a), strings.Index(small, b)
			want := a == b || i >= 0 && i == j || k >= 0 && k == l
			if octet.Fold(a, b) != want || octet.Fold("x"+a+"Y", "X"+b+"y") != want {
				t.Fatalf("%q and %q: %v", a, b, !want)
			}
		})
	})
}

// P5.1: Fold of longer strings, and of different lengths.
func TestFoldOfStrings(t *testing.T) {
	for _, p := range [][2]string{{"", ""}, {"HOST", "host"}, {"hOsT", "HoSt"}, {small, great}, {"\xffA", "\xffa"}, {"éA", "éa"}} {
		if !octet.Fold(p[0], p[1]) || !octet.Fold(p[1], p[0]) {
			t.Errorf("%q and %q differ", p[0], p[1])
		}
	}
	for _, p := range [][2]string{{"", "a"}, {"host", "hos"}, {"host", "hosts"}, {"host", "Lost"}, {"host", "hosT "}, {"a", "a\x00"}, {"é", "É"}, {"k", "\u212a"}, {"s", "\u017f"}, {"ss", "ß"}, {"\xff", "\xfe"}, {"\xff", "\ufffd"}} {
		if octet.Fold(p[0], p[1]) || octet.Fold(p[1], p[0]) {
			t.Errorf("%q and %q are equal", p[0], p[1])
		}
	}
}

// P5.1: Trim removes bytes 32 and 9 at both ends, and nothing else.
func TestTrim(t *testing.T) {
	every(func(c string) {
		want := c
		if c == " " || c == "\t" {
			want = ""
		}
		for _, s := range []string{c, " " + c, c + "\t", "\t \t" + c + " \t "} {
			if got := octet.Trim(s); got != want {
				t.Errorf("%q: %q", s, got)
			}
		}
		if got := octet.Trim(" a" + c + "b\t"); got != "a"+c+"b" {
			t.Errorf("%q within: %q", c, got)
		}
	})
	for s, want := range map[string]string{"": "", " \t \t": "", "a": "a", "  a \t b  ": "a \t b", "\u00a0a\u00a0": "\u00a0a\u00a0", "\r a \n": "\r a \n", " \xff ": "\xff"} {
		if got := octet.Trim(s); got != want {
			t.Errorf("%q: %q", s, got)
		}
	}
}

// P5.1: List divides at commas, and trims and keeps what is not empty.
func TestList(t *testing.T) {
	for _, c := range []struct{ l, want []string }{
		{[]string{"a, b", ",c"}, []string{"a", "b", "c"}},
		{nil, nil},
		{[]string{}, nil},
		{[]string{"", "", " "}, nil},
		{[]string{",", " , \t,", ",,,"}, nil},
		{[]string{"a"}, []string{"a"}},
		{[]string{"b,a", "a,b"}, []string{"b", "a", "a", "b"}},
		{[]string{" a b ,\tc\td\t"}, []string{"a b", "c\td"}},
		{[]string{"a,", ",b", "c,,d"}, []string{"a", "b", "c", "d"}},
		{[]string{"\"x,y\";q=1"}, []string{"\"x", "y\";q=1"}},
		{[]string{"A\r\n,\x00", "\xff,é"}, []string{"A\r\n", "\x00", "\xff", "é"}},
		{[]string{"a;b", "c d"}, []string{"a;b", "c d"}},
	} {
		if got := octet.List(c.l); !slices.Equal(got, c.want) {
			t.Errorf("%q: %q, want %q", c.l, got, c.want)
		}
	}
}

// P5.1: only a comma divides, and only bytes 32 and 9 are removed.
func TestListOfEachByte(t *testing.T) {
	every(func(c string) {
		want := []string{"a" + c + "b", c}
		switch c {
		case ",":
			want = []string{"a", "b"}
		case " ", "\t":
			want = want[:1]
		}
		if got := octet.List([]string{"a" + c + "b", c}); !slices.Equal(got, want) {
			t.Errorf("%q: %q", c, got)
		}
	})
}

// Rule 5: the list is left as it is, and so is its spare capacity; the result is new.
func TestListIsNew(t *testing.T) {
	l := []string{" a ", "b", "spare"}
	first := octet.List(l[:2])
	second := octet.List(l[:2])
	first[0] = "x"
	if !slices.Equal(l, []string{" a ", "b", "spare"}) || !slices.Equal(second, []string{"a", "b"}) {
		t.Errorf("%q, %q", l, second)
	}
}
