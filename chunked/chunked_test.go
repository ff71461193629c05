package chunked_test

import (
	"math"
	"regexp"
	"slices"
	"strconv"
	"strings"
	"testing"

	"steward/api"
	"steward/chunked"
)

// seen is what a decoder tells.
type seen struct {
	body, rest string
	done       bool
	e          api.Errno
}

var (
	sizeForm = regexp.MustCompile(`\A[0-9A-Fa-f]{1,8}\r\n`)
	sizePart = regexp.MustCompile(`\A(?:[0-9A-Fa-f]{0,8}|[0-9A-Fa-f]{1,8}\r)\z`)
)

// expected is what a decoder has to tell when all of s has arrived.
func expected(s string, most int) seen {
	body := ""
	for {
		line := sizeForm.FindString(s)
		if line == "" {
			return unfinished(body, sizePart.MatchString(s))
		}
		n, _ := strconv.ParseInt(strings.TrimSuffix(line, "\r\n"), 16, 64)
		if len(body)+int(n) > most {
			return seen{e: api.ErrBig}
		}
		s = s[len(line):]
		have := min(int(n), len(s))
		body, s = body+s[:have], s[have:]
		rest, ends := strings.CutPrefix(s, "\r\n")
		switch {
		case have < int(n) || !ends:
			return unfinished(body, s == "" || s == "\r")
		case n == 0:
			return seen{body: body, rest: rest, done: true}
		}
		s = rest
	}
}

func unfinished(body string, fits bool) seen {
	if fits {
		return seen{body: body}
	}
	return seen{e: api.ErrForm}
}

// told feeds the parts to the decoder and returns what it tells then, with all bytes that were left.
func told(d *chunked.Decoder, parts ...string) seen {
	var x seen
	for _, part := range parts {
		rest, e := d.Feed(part)
		x.rest, x.e = x.rest+rest, e
	}
	x.done, x.body = d.Done(), d.Body()
	return x
}

// decodes checks what a new decoder tells after the parts.
func decodes(t *testing.T, most int, want seen, parts ...string) {
	t.Helper()
	if got := told(chunked.New(most), parts...); got != want {
		t.Errorf("%q, at most %d: %+v, want %+v", parts, most, got, want)
	}
}

// agrees checks the bytes undivided, in two parts at each place, and one by one, where each step is checked.
func agrees(t *testing.T, s string, most int) {
	t.Helper()
	decodes(t, most, expected(s, most), s)
	one := chunked.New(most)
	rest := ""
	for i := range len(s) {
		decodes(t, most, expected(s, most), s[:i], s[i:])
		got := told(one, s[i:i+1])
		rest += got.rest
		got.rest = rest
		if want := expected(s[:i+1], most); got != want {
			t.Errorf("%q byte by byte, at most %d: %+v, want %+v", s[:i+1], most, got, want)
		}
	}
}

// detects checks that the last byte of s is the one at which the error is detected, and that it is kept.
func detects(t *testing.T, s string, most int, e api.Errno) {
	t.Helper()
	d := chunked.New(most)
	if rest, e := d.Feed(s[:len(s)-1]); rest != "" || e != api.OK || d.Done() {
		t.Errorf("%q without its last byte, at most %d: %q, error %d", s, most, rest, e)
	}
	for _, more := range []string{s[len(s)-1:], "", "0\r\n\r\n", "\r\n", "x"} {
		if got := told(d, more); got != (seen{e: e}) {
			t.Errorf("%q, then %q, at most %d: %+v, want error %d", s, more, most, got, e)
		}
	}
	agrees(t, s, most)
	agrees(t, s+"\r\n0\r\n\r\nx", most)
}

// P9.1: Encode writes each part that is not empty, and the last chunk.
func TestEncode(t *testing.T) {
	for _, c := range []struct {
		parts []string
		want  string
	}{
		{nil, "0\r\n\r\n"},
		{[]string{""}, "0\r\n\r\n"},
		{[]string{"", "", ""}, "0\r\n\r\n"},
		{[]string{"ab"}, "2\r\nab\r\n0\r\n\r\n"},
		{[]string{"ab", "", "c"}, "2\r\nab\r\n1\r\nc\r\n0\r\n\r\n"},
		{[]string{"", "c", "ab", ""}, "1\r\nc\r\n2\r\nab\r\n0\r\n\r\n"},
		{[]string{"0\r\n\r\n"}, "5\r\n0\r\n\r\n\r\n0\r\n\r\n"},
		{[]string{"\x00\xff\r\n"}, "4\r\n\x00\xff\r\n\r\n0\r\n\r\n"},
		{[]string{"é"}, "2\r\né\r\n0\r\n\r\n"},
		{[]string{strings.Repeat("a", 10)}, "a\r\naaaaaaaaaa\r\n0\r\n\r\n"},
		{[]string{strings.Repeat("a", 16)}, "10\r\naaaaaaaaaaaaaaaa\r\n0\r\n\r\n"},
		{[]string{strings.Repeat("b", 0xabc)}, "abc\r\n" + strings.Repeat("b", 0xabc) + "\r\n0\r\n\r\n"},
		{[]string{strings.Repeat("c", 1<<20)}, "100000\r\n" + strings.Repeat("c", 1<<20) + "\r\n0\r\n\r\n"},
	} {
		if got := chunked.Encode(c.parts...); got != c.want {
			t.Errorf("%q: %q", c.parts, got)
		}
	}
}

// P9.1: a body of several chunks, with sizes of all kinds, and bytes after it.
func TestDecode(t *testing.T) {
	for s, want := range map[string]seen{
		"0\r\n\r\n":                                       {done: true},
		"00000000\r\n\r\n":                                {done: true},
		"000\r\n\r\n0\r\n\r\n":                            {done: true, rest: "0\r\n\r\n"},
		"0\r\n\r\nGET /":                                  {done: true, rest: "GET /"},
		"2\r\nab\r\n0\r\n\r\n":                            {done: true, body: "ab"},
		"00000002\r\nab\r\n00\r\n\r\n\r":                  {done: true, body: "ab", rest: "\r"},
		"1\r\na\r\n2\r\nbc\r\n0\r\n\r\n0":                 {done: true, body: "abc", rest: "0"},
		"a\r\n0123456789\r\nA\r\nabcdefghij\r\n0\r\n\r\n": {done: true, body: "0123456789abcdefghij"},
		"0F\r\n0123456789abcde\r\n0\r\n\r\n":              {done: true, body: "0123456789abcde"},
		"7\r\n0\r\n\r\n\r\n\r\n0\r\n\r\n":                 {done: true, body: "0\r\n\r\n\r\n"},
		"4\r\n\x00\xff\r\n\r\n0\r\n\r\n\xff":              {done: true, body: "\x00\xff\r\n", rest: "\xff"},
	} {
		decodes(t, 20, want, s)
		agrees(t, s, 20)
		agrees(t, s, len(want.body))
	}
}

// P9.1: what has arrived of an incomplete body.
func TestIncomplete(t *testing.T) {
	for s, body := range map[string]string{
		"": "", "3": "", "3\r": "", "3\r\n": "", "3\r\na": "a", "3\r\nab": "ab", "3\r\nabc": "abc", "3\r\nabc\r": "abc", "3\r\nabc\r\n": "abc", "3\r\nabc\r\n0": "abc",
		"3\r\nabc\r\n2\r\nd": "abcd", "3\r\nabc\r\n0\r": "abc", "3\r\nabc\r\n0\r\n": "abc", "3\r\nabc\r\n0\r\n\r": "abc", "12345678": "", "ffffffff": "", "00000000\r\n\r": "",
	} {
		decodes(t, 20, seen{body: body}, s)
		agrees(t, s, 20)
	}
}

// P9.1: a decoder that is done leaves all bytes that arrive later, and keeps its body.
func TestAfterTheEnd(t *testing.T) {
	d := chunked.New(5)
	if got := told(d, "2\r\nab\r\n0\r\n\r\n"); got != (seen{body: "ab", done: true}) {
		t.Errorf("%+v", got)
	}
	for _, s := range []string{"", "more", "1\r\nc\r\n0\r\n\r\n", "\n", "\xff"} {
		if got := told(d, s); got != (seen{body: "ab", rest: s, done: true}) {
			t.Errorf("%q: %+v", s, got)
		}
	}
}

// P9.1: bytes that are not permitted at their positions: extensions, trailers, other ends of lines, too many digits.
func TestForm(t *testing.T) {
	for _, s := range []string{
		"\r", "\n", "g", "G", " ", "-", "+", ";", "\x00", "\xff", "x", "/", ":", "@", "`",
		"1 ", "1;", "1\t", "1\n", "0x", "1g", "1,", "1\x00", "1_", "123456789", "000000000", "fffffffff",
		"1\ra", "1\r\r", "1\r ", "1\r\naa", "1\r\na\n", "1\r\n\r\n", "1\r\na\ra", "1\r\na\r\r", "1\r\na0", "1\r\na\r\n\r", "1\r\na\r\n\n", "2\r\na\r\n",
		"0\n", "0\r\r", "0\r\na", "0\r\n0", "0\r\nA", "0\r\n\n", "0\r\n ", "0\r\n\r\r", "0\r\n\ra", "0;", "00;", "00000000;",
	} {
		for _, most := range []int{20, 2} {
			detects(t, s, most, api.ErrForm)
		}
	}
}

// P9.1: each byte at each place, in place of another byte and between two.
func TestEachByte(t *testing.T) {
	const s = "0002\r\nab\r\n1\r\nc\r\n0\r\n\r\nx"
	for i := range 256 {
		c := string([]byte{byte(i)})
		for at := range len(s) {
			for _, edited := range []string{s[:at] + c + s[at:], s[:at] + c + s[at+1:]} {
				decodes(t, 3, expected(edited, 3), edited)
				decodes(t, 3, expected(edited, 3), strings.Split(edited, "")...)
			}
		}
	}
}

// P9.1: a size that makes the body too long is detected at the byte 10 after it, and not before.
func TestBig(t *testing.T) {
	for _, c := range []struct {
		s    string
		most int
	}{
		{"1\r\n", 0}, {"15\r\n", 20}, {"3\r\n", 2}, {"00000003\r\n", 2}, {"ffffffff\r\n", 4294967294}, {"FFFFFFFF\r\n", 20}, {"80000000\r\n", 20}, {"7fffffff\r\n", 20},
		{"2\r\nab\r\n1\r\n", 2}, {"2\r\nab\r\n2\r\n", 3}, {"1\r\na\r\n1\r\nb\r\n1\r\n", 2}, {"2\r\nab\r\nffffffff\r\n", 4294967295},
		{"0\r\n", -1}, {"1\r\n", -1}, {"00000000\r\n", math.MinInt}, {"ffffffff\r\n", math.MinInt}, {"0\r\n", -100},
	} {
		detects(t, c.s, c.most, api.ErrBig)
	}
	decodes(t, 20, seen{}, "14\r\n")
	decodes(t, 4294967295, seen{body: "a"}, "ffffffff\r\na")
	decodes(t, math.MaxInt, seen{body: "ab"}, "1\r\na\r\nffffffff\r\nb")
	decodes(t, 2, seen{body: "ab", done: true}, "2\r\nab\r\n0\r\n\r\n")
	decodes(t, 0, seen{done: true}, "0\r\n\r\n")
}

// P9.1: the first error counts, whether it is a form or a size.
func TestFirstError(t *testing.T) {
	detects(t, "3;", 2, api.ErrForm)
	detects(t, "3\r\r", 2, api.ErrForm)
	detects(t, "333333333", 2, api.ErrForm)
	detects(t, "3\r\n", 2, api.ErrBig)
	detects(t, "2\r\nabc", 2, api.ErrForm)
	decodes(t, 2, seen{e: api.ErrBig}, "3\r\nabcd\r\n;")
	decodes(t, 2, seen{e: api.ErrForm}, "1\r\nab3\r\n")
}

// extended calls f with s and, unless f ends it, with all strings of s and up to n of the bytes.
func extended(s, bytes string, n int, f func(s string) (ends bool)) {
	if f(s) || n == 0 {
		return
	}
	for i := range len(bytes) {
		extended(s+bytes[i:i+1], bytes, n-1, f)
	}
}

// P9.1: all short strings of some bytes, up to the one after the end or after an error.
func TestShortStrings(t *testing.T) {
	count := 0
	for _, most := range []int{-1, 0, 1, 2} {
		extended("", "01\r\n;", 13, func(s string) bool {
			count++
			decodes(t, most, expected(s, most), s)
			decodes(t, most, expected(s, most), strings.Split(s, "")...)
			if s == "" {
				return false
			}
			before := expected(s[:len(s)-1], most)
			return t.Failed() || before.done || before.e != api.OK
		})
	}
	if count < 100000 {
		t.Error(count)
	}
}

// P9.1: three parts, divided at each pair of places.
func TestThreeParts(t *testing.T) {
	for _, s := range []string{"00a\r\n0123456789\r\n2\r\n\r\n\r\n0\r\n\r\nab", "3\r\nabc\r\n0\r\nX: y\r\n\r\n", "3\r\nabc\r\n9\r\n012345678\r\n0\r\n\r\n"} {
		for j := range len(s) + 1 {
			for i := range j + 1 {
				decodes(t, 12, expected(s, 12), s[:i], s[i:j], "", s[j:])
			}
		}
	}
}

// P9.2: encoded parts are decoded, however they are divided, and the bytes after them are left.
func TestEncodedParts(t *testing.T) {
	var bytes []byte
	for i := range 600 {
		bytes = append(bytes, byte(i*i/3))
	}
	all := string(bytes)
	for _, parts := range [][]string{
		nil, {""}, {"ab", "", "c"}, {"\r\n", "0\r\n\r\n", "1\r\nx\r\n"}, strings.Split("0123456789abcdef\r\n", ""), {all}, {all[:15], all[15:31], all[31:287], all[287:]},
		slices.Repeat([]string{"chunk;\r\n"}, 20),
	} {
		text, body := chunked.Encode(parts...), strings.Join(parts, "")
		for _, rest := range []string{"", "GET / HTTP/1.1\r\n", "0\r\n\r\n", "\r\n", "\xff", text} {
			for _, most := range []int{len(body), len(body) + 1, math.MaxInt} {
				want := seen{body: body, rest: rest, done: true}
				decodes(t, most, want, text+rest)
				decodes(t, most, want, text, rest)
				decodes(t, most, want, strings.Split(text+rest, "")...)
				for i := 0; i < len(text+rest); i += 7 {
					decodes(t, most, want, (text + rest)[:i], (text + rest)[i:])
				}
			}
			if body != "" {
				decodes(t, len(body)-1, seen{e: api.ErrBig}, text+rest)
			}
		}
	}
}

// P9.1: the zero value is a decoder for no bytes, and two decoders are independent.
func TestDecodersAlone(t *testing.T) {
	var zero chunked.Decoder
	if got := told(&zero, "0\r\n\r\nx"); got != (seen{rest: "x", done: true}) {
		t.Errorf("%+v", got)
	}
	var other chunked.Decoder
	if got := told(&other, "1\r\nx"); got != (seen{e: api.ErrBig}) {
		t.Errorf("%+v", got)
	}
	a, b := chunked.New(5), chunked.New(5)
	told(a, "2\r\na")
	told(b, "3\r\nxy")
	if x, y := told(a, "b\r\n0\r\n\r\n"), told(b, "z"); x != (seen{body: "ab", done: true}) || y != (seen{body: "xyz"}) {
		t.Errorf("%+v, %+v", x, y)
	}
}
