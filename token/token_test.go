package token_test

import (
	"math"
	"strconv"
	"strings"
	"testing"

	"steward/api"
	"steward/mac"
	"steward/token"
)

// signed is the token of web-1 until 50 with the key "key", as Python's hmac computes its tag.
const signed = "web-1.50.e13f23697cab4f270ce00a3af12e8ff8"

var longest = strings.Repeat("z", api.MaxName)

// invalidNames are no names, each for another reason.
func invalidNames() []string {
	return []string{"", "1", "-", "1a", "-a", "A", "Web", "wEb", "web_1", "web.1", "web 1", " web", "web ", "web\n", "web\x00", "web;", "web=1", "wéb", "é", "\xff", "a\xff", longest + "z", strings.Repeat("a", 1000)}
}

// tagged is the content with the right tag, whether or not it is what Sign may sign.
func tagged(key, content string) string {
	return content + "." + mac.Tag(key, content)
}

func expect(t *testing.T, key, s string, now int, name string, e api.Errno) {
	t.Helper()
	if gotName, got := token.Verify(key, s, now); got != e || gotName != name {
		t.Errorf("Verify of %q at %d: %q, %d, want %q, %d", s, now, gotName, got, name, e)
	}
}

// P4.1: every byte as the first one of a name, and as a later one.
func TestNameByByte(t *testing.T) {
	const letters = "abcdefghijklmnopqrstuvwxyz"
	for i := range 256 {
		c := string([]byte{byte(i)})
		first, later := strings.Contains(letters, c), strings.Contains(letters+"0123456789-", c)
		if token.Name(c) != first || token.Name(c+"a") != first {
			t.Errorf("%q as the first byte", c)
		}
		if token.Name("a"+c) != later || token.Name("a"+c+"a") != later || token.Name(longest[1:]+c) != later {
			t.Errorf("%q as a later byte", c)
		}
	}
}

// P4.1: a name has 1 to 32 bytes.
func TestNameByLength(t *testing.T) {
	for n := range 70 {
		if got, want := token.Name(strings.Repeat("a", n)), 1 <= n && n <= 32; got != want {
			t.Errorf("%d bytes: %v", n, got)
		}
	}
	for _, s := range invalidNames() {
		if token.Name(s) {
			t.Errorf("%q", s)
		}
	}
	for _, s := range []string{"a", "a-", "a--", "z9", "web-1", longest} {
		if !token.Name(s) {
			t.Errorf("%q is a name", s)
		}
	}
}

// P4.1: Sign, with tags of Python's hmac.
func TestSign(t *testing.T) {
	for _, c := range []struct {
		key, name string
		until     int
		want      string
	}{
		{"key", "web-1", 50, signed},
		{"", "a", 0, "a.0.0af678d5758f13f149ba43f62d36c6ec"},
		{"secret", longest, 1 << 40, longest + ".1099511627776.446760b517d012b53d30e75cd1485359"},
		{strings.Repeat("k", 65), "b2", 7, "b2.7.08a049885ecfff9852326a1c312b2c61"},
	} {
		if got := token.Sign(c.key, c.name, c.until); got != c.want {
			t.Errorf("%s until %d: %q, want %q", c.name, c.until, got, c.want)
		}
	}
}

// P4.1: the time is limited to 0 to MaxClock.
func TestSignLimitsTheTime(t *testing.T) {
	for until, want := range map[int]int{math.MinInt: 0, -1: 0, 0: 0, 1: 1, 10: 10, 1<<40 - 1: 1<<40 - 1, 1 << 40: 1 << 40, 1<<40 + 1: 1 << 40, math.MaxInt: 1 << 40} {
		if got := token.Sign("key", "a", until); got != tagged("key", "a."+strconv.Itoa(want)) {
			t.Errorf("%d: %q", until, got)
		}
	}
}

// P4.1: nothing is signed for what is no name.
func TestSignOfNoName(t *testing.T) {
	for _, s := range invalidNames() {
		if got := token.Sign("key", s, 50); got != "" {
			t.Errorf("%q: %q", s, got)
		}
	}
}

// P4.2: a signed token is valid until its time, and then no more.
func TestVerifyUntilItsTime(t *testing.T) {
	for _, key := range []string{"", "key", strings.Repeat("\xff", 65)} {
		for _, name := range []string{"a", "web-1", longest} {
			for _, until := range []int{0, 1, 9, 10, 99, 1 << 20, 999999999999, 1<<40 - 1, 1 << 40} {
				s := token.Sign(key, name, until)
				for _, now := range []int{math.MinInt, -1, 0, until / 2, until - 1, until} {
					expect(t, key, s, now, name, api.OK)
				}
				for _, now := range []int{until + 1, 2*until + 1, math.MaxInt} {
					expect(t, key, s, now, "", api.ErrEnd)
				}
			}
		}
	}
}

// P4.2: a limited time is the one that counts.
func TestVerifyOfALimitedTime(t *testing.T) {
	expect(t, "key", token.Sign("key", "a", -5), 0, "a", api.OK)
	expect(t, "key", token.Sign("key", "a", -5), 1, "", api.ErrEnd)
	expect(t, "key", token.Sign("key", "a", math.MaxInt), 1<<40, "a", api.OK)
	expect(t, "key", token.Sign("key", "a", math.MaxInt), 1<<40+1, "", api.ErrEnd)
}

// P4.1, P4.3: what has not the form of a token is rejected as such, even with the right tag.
func TestVerifyOfOtherForms(t *testing.T) {
	for _, name := range invalidNames() {
		expect(t, "key", tagged("key", name+".50"), 0, "", api.ErrForm)
	}
	for _, until := range []string{"", "00", "01", "050", "0000000000050", "+5", "-5", "-0", "+0", " 5", "5 ", "5\n", "5.", ".5", "5.0", "5e1", "0x5", "5_0", "5a", "a", "٥", "\xff", "\x00", "1099511627777", "9999999999999", "10000000000000", "99999999999999", "18446744073709551616", strings.Repeat("9", 100), strings.Repeat("0", 13)} {
		expect(t, "key", tagged("key", "web-1."+until), 0, "", api.ErrForm)
	}
	for _, content := range []string{"", "web-1", "web-150", "50", "web-1:50", "web-1..50", ".web-1.50", "web-1.50.", "web-1.50.50", "web-1 .50", "web-1. 50"} {
		expect(t, "key", tagged("key", content), 0, "", api.ErrForm)
	}
	for _, s := range []string{"", ".", "..", "...", "a", "a.", "a.0", "a.0.", " " + signed, signed + " ", signed + "\n", signed + ";", "." + signed, signed + ".", signed + "." + signed} {
		expect(t, "key", s, 0, "", api.ErrForm)
	}
}

// P4.1, P4.3: a tag has exactly 32 digits 0 to 9 and a to f.
func TestVerifyOfOtherTags(t *testing.T) {
	content, tag := signed[:9], signed[9:]
	sum := mac.Sum("key", "web-1.50")
	for _, other := range []string{"", tag[:30], tag[:31], tag[1:], tag + "0", "0" + tag, tag + "00", tag + tag, strings.ToUpper(tag), "E" + tag[1:], tag[:31] + "g", tag[:31] + "/", tag[:31] + ":", tag[:31] + "`", "." + tag[1:], tag[:15] + " " + tag[16:], string(sum[:])} {
		expect(t, "key", content+other, 0, "", api.ErrForm)
	}
	for _, other := range []string{strings.Repeat("0", 32), strings.Repeat("f", 32), tag[2:] + tag[:2], mac.Tag("key"), mac.Tag("key", "web-1"), mac.Tag("key", content)} {
		expect(t, "key", content+other, 0, "", api.ErrSign)
	}
}

// P4.1: of several errors the first one is returned: the form, then the tag, then the time.
func TestVerifyOrderOfErrors(t *testing.T) {
	expect(t, "other", "Web"+signed[3:], 51, "", api.ErrForm)
	expect(t, "key", signed[:len(signed)-1], 51, "", api.ErrForm)
	expect(t, "other", signed, 51, "", api.ErrSign)
	expect(t, "other", signed, 0, "", api.ErrSign)
	expect(t, "key", signed, 51, "", api.ErrEnd)
	expect(t, "key", signed, 50, "web-1", api.OK)
}

// P4.3: of all texts that differ from a token in one byte, none is accepted.
func TestVerifyOfOneChangedByte(t *testing.T) {
	for i := range signed {
		for c := range 256 {
			changed := []byte(signed)
			changed[i] = byte(c)
			name, e := token.Verify("key", string(changed), 0)
			if byte(c) != signed[i] && (name != "" || e != api.ErrForm && e != api.ErrSign) {
				t.Fatalf("%q: %q, %d", changed, name, e)
			}
		}
	}
}

// P4.3: no text with one byte more or less is accepted, and no beginning or end of a token.
func TestVerifyOfOtherLengths(t *testing.T) {
	for i := range len(signed) + 1 {
		others := []string{signed[:i] + "0" + signed[i:], signed[:i] + "a" + signed[i:], signed[:i] + "." + signed[i:], signed[:i] + "\x00" + signed[i:]}
		if i < len(signed) {
			others = append(others, signed[:i], signed[i+1:], signed[:i]+signed[i+1:])
		}
		for _, s := range others {
			if name, e := token.Verify("key", s, 0); name != "" || e != api.ErrForm && e != api.ErrSign {
				t.Errorf("%q: %q, %d", s, name, e)
			}
		}
	}
}

// P4.3: a tag is worth nothing for another name, another time or another key.
func TestVerifyOfAnotherTokensTag(t *testing.T) {
	tag := signed[8:]
	for _, content := range []string{"web-2.50", "web-1.51", "web-1.5", "web-1.500", "web-1.1099511627776", "we.50", "web-10.50", "b-1.50"} {
		expect(t, "key", content+tag, 0, "", api.ErrSign)
	}
	for _, key := range []string{"", "Key", "key2", "ke", "key ", "yek", strings.Repeat("key", 30)} {
		expect(t, key, signed, 0, "", api.ErrSign)
	}
	expect(t, "ey", token.Sign("k", "eyes", 5), 0, "", api.ErrSign)
}

// P4.3: whatever is accepted, Sign returns for its content.
func TestVerifyAcceptsOnlyWhatSignReturns(t *testing.T) {
	accepted := 0
	for _, name := range append(invalidNames(), "a", "b", "a-1", longest) {
		for _, until := range []string{"", "0", "00", "7", "07", "+7", "-7", "70", "1099511627776", "1099511627777", "9999999999999"} {
			s := tagged("key", name+"."+until)
			got, e := token.Verify("key", s, 0)
			if e != api.OK {
				continue
			}
			accepted++
			n, _ := strconv.Atoi(until)
			if got != name || token.Sign("key", name, n) != s {
				t.Errorf("%q: %q", s, got)
			}
		}
	}
	if accepted != 4*4 {
		t.Errorf("%d accepted", accepted)
	}
}
