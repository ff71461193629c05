package token_test

import (
	"slices"
	"strings"
	"testing"

	"steward/api"
	"steward/token"
)

// P4.1: Cookie, for any strings.
func TestCookie(t *testing.T) {
	for _, c := range [][3]string{
		{"pin", "x.5.00", "pin=x.5.00; Path=/; HttpOnly"},
		{"", "", "=; Path=/; HttpOnly"},
		{"a=b;", "\xff ", "a=b;=\xff ; Path=/; HttpOnly"},
	} {
		if got := token.Cookie(c[0], c[1]); got != c[2] {
			t.Errorf("%q, %q: %q", c[0], c[1], got)
		}
	}
}

// find checks that Find returns the value.
func find(t *testing.T, name, want string, l ...string) {
	t.Helper()
	if got, ok := token.Find(l, name); !ok || got != want {
		t.Errorf("Find of %q in %q: %q, %v, want %q", name, l, got, ok, want)
	}
}

// findNone checks that Find returns none.
func findNone(t *testing.T, name string, l ...string) {
	t.Helper()
	if got, ok := token.Find(l, name); ok || got != "" {
		t.Errorf("Find of %q in %q: %q, %v, want none", name, l, got, ok)
	}
}

// P4.1: Find in one value, wherever the pair is.
func TestFindInOneValue(t *testing.T) {
	find(t, "pin", "x.5.00", "a=1; pin=x.5.00; b")
	find(t, "pin", "x", "pin=x")
	find(t, "pin", "x", "pin=x;")
	find(t, "pin", "x", ";pin=x")
	find(t, "pin", "x", ";;;pin=x;;")
	find(t, "pin", "x", "a=pin;pin=x")
	find(t, "pin", "x", "pin;pin=x")
}

// P4.1: the first of several pairs counts, in the order of the values.
func TestFindTheFirst(t *testing.T) {
	find(t, "pin", "1", "pin=1; pin=2")
	find(t, "pin", "1", "a=0", "", "b;pin=1", "pin=2")
	find(t, "pin", "", "pin=; pin=2", "pin=3")
	find(t, "pin", "2", "pin 1; pin=2")
	find(t, "pin", "3", "pin", "=1", "pin=3")
}

// P4.1: the value is all that follows, to the semicolon.
func TestFindTheWholeValue(t *testing.T) {
	find(t, "pin", "", "pin=")
	find(t, "pin", "=", "pin==")
	find(t, "pin", "a=b", "pin=a=b")
	find(t, "pin", "pin=x", "pin=pin=x")
	find(t, "pin", "\"x\"", "pin=\"x\"")
	find(t, "pin", "a,b", "pin=a,b")
	find(t, "pin", "\xff\x00é", "pin=\xff\x00é")
}

// P4.1: blanks around a pair are ignored, within it they count, and only bytes 32 and 9 are blanks.
func TestFindAmongBlanks(t *testing.T) {
	find(t, "pin", "x", " \t pin=x\t \t; a=1")
	find(t, "pin", "x", "a=1;\t\tpin=x ")
	find(t, "pin", "", "pin= \t ;")
	find(t, "pin", " x", "pin= x")
	find(t, "pin", "x\t y", "pin=x\t y ")
	findNone(t, "pin", "pin =x")
	findNone(t, "pin", "p in=x")
	for i := range 256 {
		c := string([]byte{byte(i)})
		switch c {
		case " ", "\t":
			find(t, "pin", "x", "a;"+c+"pin=x"+c)
		case ";":
			find(t, "pin", "x", "a;"+c+"pin=x"+c)
		default:
			findNone(t, "pin", "a;"+c+"pin=x"+c)
			find(t, "pin", "x"+c, "a;pin=x"+c)
		}
	}
}

// P4.1: names that only resemble it are others, and there may be no pair at all.
func TestFindNone(t *testing.T) {
	findNone(t, "pin")
	findNone(t, "pin", "", ";", " ; ")
	findNone(t, "pin", "pin", "pin;", "a=pin")
	findNone(t, "pin", "xpin=1; pinx=2; Pin=3; PIN=4; pi=5; pi", "n=6")
	findNone(t, "pin", "a=pin=1", "a,pin=1", "\"pin=1\"", "pi;n=1", "pin;=1")
	if got, ok := token.Find(nil, ""); ok || got != "" {
		t.Errorf("%q, %v", got, ok)
	}
}

// P4.1: names of any bytes are searched literally.
func TestFindOfOtherNames(t *testing.T) {
	find(t, "", "1", "a=0; =1")
	find(t, "", "=", "a;==")
	find(t, "a=b", "c", "a=b=c")
	find(t, "a b", "1", " a b=1")
	find(t, "a ", "1", "a =1")
	find(t, "\xff", "1", "\xff=1")
	findNone(t, "", "a=1", "")
	findNone(t, " a", " a=1")
	findNone(t, "a;b", "a;b=1")
	findNone(t, "a=b", "a=b")
}

// P4.1, P4.2: a cookie that is sent back is found, and its token is valid.
func TestFindOfASentCookie(t *testing.T) {
	s := token.Sign("key", "web-1", 50)
	pair, _, _ := strings.Cut(token.Cookie("pin", s), ";")
	got, ok := token.Find([]string{"a=1", "b=2; " + pair + "; c=3"}, "pin")
	if !ok || got != s {
		t.Errorf("%q, %v", got, ok)
	}
	expect(t, "key", got, 50, "web-1", api.OK)
}

// Rule 5: the list is left as it is.
func TestFindLeavesItsList(t *testing.T) {
	l := []string{" a=1 ;b", "pin=x", "spare"}
	token.Find(l[:2], "pin")
	if !slices.Equal(l, []string{" a=1 ;b", "pin=x", "spare"}) {
		t.Errorf("%q", l)
	}
}
