package request_test

import (
	"math"
	"slices"
	"strings"
	"testing"

	"steward/api"
	"steward/fields"
	"steward/request"
)

// open are limits that nothing here exceeds.
var open = request.Limits{Line: math.MaxInt, Head: math.MaxInt, Count: math.MaxInt, Body: math.MaxInt}

// headSeen is what a head tells.
type headSeen struct {
	rest        string
	e           api.Errno
	done, begun bool
	first       string
	fields      string
}

// of returns the fields with the names and values, in turn.
func of(l ...string) fields.Fields {
	var out fields.Fields
	for i := 0; i < len(l); i += 2 {
		out = append(out, fields.Field{Name: l[i], Value: l[i+1]})
	}
	return out
}

// lastByteError is the error that is detected at the last byte of s, when none is detected before it.
func lastByteError(l request.Limits, s string) api.Errno {
	if strings.ContainsAny(strings.TrimSuffix(strings.ReplaceAll(s, "\r\n", ""), "\r"), "\r\n") {
		return api.ErrForm
	}
	lines := strings.Split(s, "\r\n")
	last := strings.TrimSuffix(lines[len(lines)-1], "\r")
	if len(lines) == 1 {
		return longIf(len(last) > max(0, l.Line))
	}
	ended := lines[1 : len(lines)-1]
	size := len(last)
	for _, line := range ended {
		size += len(line) + 2
	}
	if size > max(0, l.Head) || len(ended) > max(0, l.Count) {
		return api.ErrLong
	}
	if last != "" || len(ended) == 0 {
		return api.OK
	}
	_, e := fields.Parse(ended[len(ended)-1])
	return e
}

func longIf(long bool) api.Errno {
	if long {
		return api.ErrLong
	}
	return api.OK
}

// headOf is what a head has to tell when all of s has arrived.
func headOf(l request.Limits, s string) headSeen {
	text, rest := s, ""
	if end := strings.Index(s, "\r\n\r\n"); end >= 0 {
		text, rest = s[:end+2], s[end+4:]
	}
	for i := range len(text) {
		if e := lastByteError(l, text[:i+1]); e != api.OK {
			return headSeen{e: e}
		}
	}
	lines := strings.Split(text, "\r\n")
	x := headSeen{rest: rest, done: strings.Contains(s, "\r\n\r\n"), begun: len(lines) > 1}
	if x.begun {
		x.first = lines[0]
		for _, line := range lines[1 : len(lines)-1] {
			f, _ := fields.Parse(line)
			x.fields += f.Line()
		}
	}
	return x
}

// headTold feeds the parts to the head and returns what it tells then, with all bytes that were left.
func headTold(h *request.Head, parts ...string) headSeen {
	var x headSeen
	for _, part := range parts {
		rest, e := h.Feed(part)
		x.rest, x.e = x.rest+rest, e
	}
	x.done, x.begun, x.first, x.fields = h.Done(), h.Begun(), h.First(), h.Fields().Text()
	return x
}

// heads checks what a new head tells after the parts.
func heads(t *testing.T, l request.Limits, want headSeen, parts ...string) {
	t.Helper()
	if got := headTold(request.NewHead(l), parts...); got != want {
		t.Errorf("%+v, %q: %+v, want %+v", l, parts, got, want)
	}
}

// headAgrees checks the bytes undivided, in two parts at each place, and one by one, where each step is checked.
func headAgrees(t *testing.T, l request.Limits, s string) {
	t.Helper()
	want := headOf(l, s)
	heads(t, l, want, s)
	one := request.NewHead(l)
	rest := ""
	for i := range len(s) {
		heads(t, l, want, s[:i], s[i:])
		got := headTold(one, s[i:i+1])
		rest += got.rest
		got.rest = rest
		if want := headOf(l, s[:i+1]); got != want {
			t.Errorf("%+v, %q byte by byte: %+v, want %+v", l, s[:i+1], got, want)
		}
	}
}

// headDetects checks that the last byte of s is the one at which the error is detected, and that it is kept.
func headDetects(t *testing.T, l request.Limits, s string, e api.Errno) {
	t.Helper()
	h := request.NewHead(l)
	if rest, e := h.Feed(s[:len(s)-1]); rest != "" || e != api.OK || h.Done() {
		t.Errorf("%+v, %q without its last byte: %q, error %d", l, s, rest, e)
	}
	for _, more := range []string{s[len(s)-1:], "", "\r\n", "\r\n\r\n", "x", "\n"} {
		if got := headTold(h, more); got != (headSeen{e: e}) || h.Fields() != nil {
			t.Errorf("%+v, %q, then %q: %+v, want error %d", l, s, more, got, e)
		}
	}
	headAgrees(t, l, s)
	headAgrees(t, l, s+"\r\nA: b\r\n\r\nx")
}

// P10.1: heads with and without fields, with any first line, and bytes after them.
func TestHead(t *testing.T) {
	for s, want := range map[string]headSeen{
		"\r\n\r\n":                       {done: true, begun: true},
		"A\r\n\r\n":                      {done: true, begun: true, first: "A"},
		" \t\x00\xff:\r\n\r\n\r\n":       {done: true, begun: true, first: " \t\x00\xff:", rest: "\r\n"},
		"HTTP/1.1 200 OK\r\n\r\nbody":    {done: true, begun: true, first: "HTTP/1.1 200 OK", rest: "body"},
		"A\r\nb:c\r\n\r\n":               {done: true, begun: true, first: "A", fields: "b: c\r\n"},
		"A\r\nX:  1\t \r\nx:\r\n\r\nA\r": {done: true, begun: true, first: "A", fields: "X: 1\r\nx: \r\n", rest: "A\r"},
		"\r\nA: :b:\r\n\r\n\n":           {done: true, begun: true, fields: "A: :b:\r\n", rest: "\n"},
	} {
		heads(t, open, want, s)
		headAgrees(t, open, s)
	}
}

// P10.1: what has arrived of an incomplete head.
func TestHeadIncomplete(t *testing.T) {
	for s, want := range map[string]headSeen{
		"": {}, "A": {}, "A\r": {}, "\r": {}, "\r\n": {begun: true}, "A\r\n": {begun: true, first: "A"}, "A\r\n\r": {begun: true, first: "A"}, "A\r\nb": {begun: true, first: "A"}, "A\r\nb: c": {begun: true, first: "A"}, "A\r\nb: c\r": {begun: true, first: "A"},
		"A\r\nb: c\r\n": {begun: true, first: "A", fields: "b: c\r\n"}, "A\r\nb: c\r\nd": {begun: true, first: "A", fields: "b: c\r\n"}, "A\r\nb: c\r\nd:\r\n\r": {begun: true, first: "A", fields: "b: c\r\nd: \r\n"},
	} {
		heads(t, open, want, s)
		headAgrees(t, open, s)
	}
}

// P10.1: a head that is done leaves all bytes that arrive later, and is not changed by them.
func TestHeadAfterItsEnd(t *testing.T) {
	h := request.NewHead(request.Limits{Line: 1, Head: 5, Count: 1})
	want := headSeen{done: true, begun: true, first: "A", fields: "b: c\r\n"}
	if got := headTold(h, "A\r\nb:c\r\n\r\n"); got != want {
		t.Errorf("%+v", got)
	}
	for _, s := range []string{"", "d: e\r\n", "\n", "\r\r", strings.Repeat("x", 100)} {
		want.rest = s
		if got := headTold(h, s); got != want {
			t.Errorf("%q: %+v", s, got)
		}
	}
}

// P10.1: a byte 10 alone, and a byte 13 that is followed by another byte, in each line.
func TestHeadLineEnds(t *testing.T) {
	for _, before := range []string{"", "A", "A\r\n", "A\r\nb: c", "A\r\nb: c\r\n", "A\r\nb: c\r\nd", "\r\n"} {
		for _, end := range []string{"\n", "\ra", "\r\r", "\r ", "\r\x00", "\r\xff", "x\n", "x\r:"} {
			headDetects(t, open, before+end, api.ErrForm)
		}
	}
}

// P10.1, rule 2: bytes that end no line are ErrForm, also where a line becomes too long.
func TestHeadFormPrecedesLong(t *testing.T) {
	l := request.Limits{Line: 2, Head: 6, Count: 1}
	for _, before := range []string{"", "A", "AB", "AB\r\n", "AB\r\nb:", "AB\r\nb:cd", "AB\r\nb:cdef"} {
		headDetects(t, l, before+"\n", api.ErrForm)
		headDetects(t, l, before+"\rx", api.ErrForm)
		headDetects(t, l, before+"\r\r", api.ErrForm)
	}
	headDetects(t, l, "ABC", api.ErrLong)
	headDetects(t, l, "AB\r\nb:cdefg", api.ErrLong)
}

// P10.1: the first line has up to Line bytes, without its end.
func TestHeadLine(t *testing.T) {
	for _, n := range []int{0, 1, 2, 40, 100} {
		line := strings.Repeat("x", n)
		l := request.Limits{Line: n}
		heads(t, l, headSeen{}, line)
		heads(t, l, headSeen{}, line+"\r")
		heads(t, l, headSeen{begun: true, first: line}, line+"\r\n")
		heads(t, l, headSeen{begun: true, first: line, done: true}, line+"\r\n\r\n")
		for _, c := range []string{"x", " ", "\x00", "\xff", ":"} {
			headDetects(t, l, line+c, api.ErrLong)
		}
	}
}

// P10.1: all field lines have up to Head bytes together, with their ends, which count when they are complete.
func TestHeadSize(t *testing.T) {
	const lines = "a:\r\nbc: d\r\n"
	for i, l := range []string{"a:\r\n", lines} {
		text := "first\r\n" + l
		enough := request.Limits{Line: 5, Head: len(l), Count: 2}
		heads(t, enough, headSeen{begun: true, first: "first", fields: of("a", "", "bc", "d")[:i+1].Text(), done: true}, text+"\r\n")
		for less := 1; less <= 2; less++ {
			little := enough
			little.Head -= less
			headDetects(t, little, text, api.ErrLong)
		}
		little := enough
		little.Head -= 3
		headDetects(t, little, strings.TrimSuffix(text, "\r\n"), api.ErrLong)
		little.Head -= 1
		headDetects(t, little, strings.TrimSuffix(text, "\r\n")[:len(text)-3], api.ErrLong)
	}
	full := request.Limits{Head: len(lines), Count: 9}
	for _, c := range []string{"x", ":", " ", "\x00"} {
		headDetects(t, full, "\r\n"+lines+c, api.ErrLong)
	}
	// The first line and the empty line do not count, and neither does a byte 13 that may be the end of one.
	heads(t, full, headSeen{begun: true, fields: "a: \r\nbc: d\r\n"}, "\r\n"+lines+"\r")
	heads(t, request.Limits{Head: 2, Count: 1}, headSeen{begun: true}, "\r\na:")
	heads(t, request.Limits{Head: 2, Count: 1}, headSeen{begun: true}, "\r\na:\r")
	headDetects(t, request.Limits{Head: 2, Count: 1}, "\r\na:\r\n", api.ErrLong)
	headDetects(t, request.Limits{Head: 3, Count: 1}, "\r\na:\r\n", api.ErrLong)
	heads(t, request.Limits{}, headSeen{begun: true, done: true}, "\r\n\r\n")
	headDetects(t, request.Limits{Count: 9}, "\r\nx", api.ErrLong)
}

// P10.1: there are up to Count fields, and one more is detected at the end of its line.
func TestHeadCount(t *testing.T) {
	for n := range 20 {
		text := "A\r\n" + strings.Repeat("a: b\r\n", n)
		l := open
		l.Count = n
		heads(t, l, headSeen{begun: true, first: "A", fields: strings.Repeat("a: b\r\n", n), done: true}, text+"\r\n")
		heads(t, l, headSeen{begun: true, first: "A", fields: strings.Repeat("a: b\r\n", n)}, text+"a: b\r")
		headDetects(t, l, text+"c:\r\n", api.ErrLong)
	}
}

// P10.1: negative limits count as 0.
func TestHeadNegativeLimits(t *testing.T) {
	for _, n := range []int{-1, -2, -100, math.MinInt} {
		heads(t, request.Limits{Line: n, Head: n, Count: n, Body: n}, headSeen{done: true, begun: true, rest: "x"}, "\r\n\r\nx")
		headDetects(t, request.Limits{Line: n, Head: 9, Count: 9}, "x", api.ErrLong)
		headDetects(t, request.Limits{Line: 9, Head: n, Count: 9}, "x\r\ny", api.ErrLong)
		headDetects(t, request.Limits{Line: 9, Head: 9, Count: n}, "x\r\ny:\r\n", api.ErrLong)
		heads(t, request.Limits{Line: n, Head: 9, Count: 9}, headSeen{done: true, begun: true, fields: "y: \r\n"}, "\r\ny:\r\n\r\n")
	}
}

// P10.1: a field line of another form is detected at its end, whatever it is.
func TestHeadFieldForm(t *testing.T) {
	for _, line := range []string{"a", " ", "\t", ":", ": b", "a : b", " a: b", "\ta: b", " b", "a\t: b", "a b: c", "é: b", "a: é", "a: \x00", "a: b\x7f", "\x00a: b", "(a): b", "\"a\": b", "a\xff: b", strings.Repeat("a", 65) + ": b"} {
		headDetects(t, open, "A\r\n"+line+"\r\n", api.ErrForm)
		headDetects(t, open, "\r\nx: y\r\n"+line+"\r\n", api.ErrForm)
	}
	name := strings.Repeat("a", 64)
	heads(t, open, headSeen{begun: true, fields: name + ": b\r\n"}, "\r\n"+name+": b\r\n")
}

// P10.1: at the end of a line ErrLong precedes the error of the field.
func TestHeadLongPrecedesField(t *testing.T) {
	headDetects(t, request.Limits{Head: 9, Count: 0}, "\r\nab\r\n", api.ErrLong)
	headDetects(t, request.Limits{Head: 3, Count: 9}, "\r\nab\r\n", api.ErrLong)
	headDetects(t, request.Limits{Head: 9, Count: 1}, "\r\na:\r\nab\r\n", api.ErrLong)
	headDetects(t, request.Limits{Head: 7, Count: 2}, "\r\na:\r\nab\r\n", api.ErrLong)
	headDetects(t, request.Limits{Head: 8, Count: 2}, "\r\na:\r\nab\r\n", api.ErrForm)
	headDetects(t, request.Limits{Head: 4, Count: 1}, "\r\nab\r\n", api.ErrForm)
	// An earlier error counts, though.
	heads(t, request.Limits{Head: 8, Count: 1}, headSeen{e: api.ErrForm}, "\r\nab\r\ncd\r\n")
}

// P10.1: each byte at each place of a head, in place of another byte and between two.
func TestHeadOfEachByte(t *testing.T) {
	const s = "G\r\na:b\r\nc: d\r\n\r\nx"
	for _, l := range []request.Limits{open, {Line: 1, Head: 11, Count: 2}} {
		for i := range 256 {
			c := string([]byte{byte(i)})
			for at := range len(s) {
				for _, edited := range []string{s[:at] + c + s[at:], s[:at] + c + s[at+1:], s[:at] + s[at+1:]} {
					heads(t, l, headOf(l, edited), edited)
					heads(t, l, headOf(l, edited), strings.Split(edited, "")...)
				}
			}
		}
	}
}

// P10.1: each head with each small limit, however it is divided.
func TestHeadOfEachLimit(t *testing.T) {
	for _, s := range []string{"AB\r\na:b\r\nc:\r\n\r\nxy", "A\r\na: \tb\r\n\r\n", "\r\n\r\n\r\n", "ABC\r\nab\r\nc:d\r\n\r\n", "A\r\na:\r\nb:\r\nc:\r\n\r\n"} {
		for line := -1; line <= 4; line++ {
			for size := -1; size <= 13; size++ {
				for count := -1; count <= 4; count++ {
					headAgrees(t, request.Limits{Line: line, Head: size, Count: count}, s)
				}
			}
		}
	}
}

// Rule 5: the fields that a head returns are new each time.
func TestHeadFieldsAreNew(t *testing.T) {
	h := request.NewHead(open)
	h.Feed("A\r\na: 1\r\nb: 2\r\nc: 3\r\n")
	before, again := h.Fields(), h.Fields()
	before[0].Value = "x"
	_ = append(before[:1], fields.Field{Name: "y"})
	h.Feed("d: 4\r\n\r\n")
	after := h.Fields()
	if !slices.Equal(again, of("a", "1", "b", "2", "c", "3")) || !slices.Equal(after, of("a", "1", "b", "2", "c", "3", "d", "4")) {
		t.Errorf("%q, %q", again, after)
	}
}

// Rule 1: the zero value is a head whose limits are 0.
func TestHeadZero(t *testing.T) {
	var empty, long request.Head
	if got := headTold(&empty, "\r\n\r\nx"); got != (headSeen{done: true, begun: true, rest: "x"}) {
		t.Errorf("%+v", got)
	}
	if got := headTold(&long, "x"); got != (headSeen{e: api.ErrLong}) {
		t.Errorf("%+v", got)
	}
}
