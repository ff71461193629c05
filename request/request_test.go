package request_test

import (
	"math"
	"slices"
	"strconv"
	"strings"
	"testing"

	"steward/api"
	"steward/chunked"
	"steward/fields"
	"steward/framing"
	"steward/request"
	"steward/start"
)

// usual are limits that the requests here fit in, unless they are to be too long.
var usual = request.Limits{Line: 40, Head: 120, Count: 4, Body: 10}

// seen is what a parser tells, with its requests as a text.
type seen struct {
	requests string
	e        api.Errno
	waits    bool
}

// shown returns all parts of the requests, such that different requests are different texts.
func shown(l ...request.Message) string {
	var text strings.Builder
	for _, m := range l {
		text.WriteString(strconv.Quote(m.Method) + strconv.Quote(m.Target) + strconv.Itoa(m.Kind) + strconv.Quote(m.Body))
		for _, f := range m.Fields {
			text.WriteString(strconv.Quote(f.Name) + strconv.Quote(f.Value))
		}
		text.WriteString("\n")
	}
	return text.String()
}

// a returns the request of its parts.
func a(method, target string, kind int, body string, l ...string) request.Message {
	return request.Message{Request: start.Request{Method: method, Target: target}, Fields: of(l...), Body: body, Kind: kind}
}

// told feeds the parts to the parser and returns what it tells then, with all requests.
func told(p *request.Parser, parts ...string) seen {
	var x seen
	for _, part := range parts {
		l, e := p.Feed(part)
		x.requests, x.e = x.requests+shown(l...), e
	}
	x.waits = p.Waits()
	return x
}

// bodyOf returns the body at the beginning of s, what follows it, whether it is complete, and its error.
func bodyOf(kind, n, most int, s string) (body, rest string, complete bool, e api.Errno) {
	if kind == framing.Chunked {
		d := chunked.New(most)
		rest, e = d.Feed(s)
		return d.Body(), rest, d.Done(), e
	}
	return s[:n], s[n:], true, api.OK
}

// requestOf returns the request at the beginning of s, what follows it, whether it is complete, and its error.
func requestOf(l request.Limits, s string) (m request.Message, rest string, complete bool, e api.Errno) {
	line := headOf(l, strings.SplitAfterN(s, "\n", 2)[0])
	if e = line.e; line.begun {
		m.Request, e = start.ParseRequest(line.first)
	}
	if e != api.OK {
		return m, "", false, e
	}
	head := headOf(l, s)
	if head.e != api.OK || !head.done {
		return m, "", false, head.e
	}
	hosts := ""
	for line := range strings.SplitSeq(strings.TrimSuffix(head.fields, "\r\n"), "\r\n") {
		f, _ := fields.Parse(line)
		m.Fields = append(m.Fields, f)
		if strings.ToLower(f.Name) == "host" {
			hosts += f.Value + "\n"
		}
	}
	if strings.Count(hosts, "\n") != 1 || hosts == "\n" {
		return m, "", false, api.ErrForm
	}
	kind, n, e := framing.Request(m.Fields, l.Body)
	if e != api.OK || kind == framing.Length && len(head.rest) < n {
		return m, "", false, e
	}
	m.Kind = kind
	m.Body, rest, complete, e = bodyOf(kind, n, l.Body, head.rest)
	return m, rest, complete, e
}

// expected is what a parser has to tell when all of s has arrived.
func expected(l request.Limits, s string) seen {
	var x seen
	for s != "" {
		m, rest, complete, e := requestOf(l, s)
		if e != api.OK || !complete {
			x.e, x.waits = e, e == api.OK
			return x
		}
		x.requests += shown(m)
		s = rest
	}
	return x
}

// parses checks what a new parser tells after the parts.
func parses(t *testing.T, l request.Limits, want seen, parts ...string) {
	t.Helper()
	if got := told(request.New(l), parts...); got != want {
		t.Errorf("%+v, %q: %+v, want %+v", l, parts, got, want)
	}
}

// agrees checks the bytes undivided, in two parts at each place, and one by one, where each step is checked.
func agrees(t *testing.T, l request.Limits, s string) {
	t.Helper()
	want := expected(l, s)
	parses(t, l, want, s)
	one := request.New(l)
	requests := ""
	for i := range len(s) {
		parses(t, l, want, s[:i], s[i:])
		got := told(one, s[i:i+1])
		requests += got.requests
		got.requests = requests
		if want := expected(l, s[:i+1]); got != want {
			t.Errorf("%+v, %q byte by byte: %+v, want %+v", l, s[:i+1], got, want)
		}
	}
}

// detects checks that the last byte of s is the one at which the error is detected, and that it is kept:
// at the beginning, and after a request, if that fits in the limits, which is returned together with the error.
func detects(t *testing.T, l request.Limits, s string, e api.Errno) {
	t.Helper()
	p := request.New(l)
	if got := told(p, s[:len(s)-1]); got != (seen{waits: len(s) > 1}) {
		t.Errorf("%+v, %q without its last byte: %+v", l, s, got)
	}
	const good = "GET /good HTTP/1.1\r\nHost: good\r\n\r\n"
	for _, more := range []string{s[len(s)-1:], "", good, "\r\n\r\n", "x"} {
		if l, again := p.Feed(more); l != nil || again != e || p.Waits() {
			t.Errorf("%q, then %q: %+v, error %d, %v, want error %d", s, more, l, again, p.Waits(), e)
		}
	}
	agrees(t, l, s)
	agrees(t, l, s+good)
	parses(t, l, seen{e: e}, s+good)
	if l.Line >= 18 && l.Head >= 12 && l.Count >= 1 {
		want := seen{requests: shown(a("GET", "/good", framing.None, "", "Host", "good")), e: e}
		parses(t, l, want, good+s)
		parses(t, l, want, good+s+good, good)
	}
}

// P10.1: Text is the line, the fields, an empty line and the body as it is.
func TestText(t *testing.T) {
	for want, m := range map[string]request.Message{
		" / HTTP/1.1\r\n\r\n":                                  a("", "/", 0, ""),
		"GET /a?b HTTP/1.1\r\nHost: a\r\n\r\n":                 a("GET", "/a?b", framing.None, "", "Host", "a"),
		"PUT / HTTP/1.1\r\nb: \r\nA: 1\r\n\r\nx\r\n\r\ny":      a("PUT", "/", framing.Length, "x\r\n\r\ny", "b", "", "A", "1"),
		"P / HTTP/1.1\r\nTransfer-Encoding: chunked\r\n\r\nab": a("P", "/", framing.Chunked, "ab", "Transfer-Encoding", "chunked"),
		"P / HTTP/1.1\r\n\r\n\x00\xff":                         a("P", "/", 77, "\x00\xff"),
	} {
		if got := m.Text(); got != want {
			t.Errorf("%q, want %q", got, want)
		}
	}
	if got := (request.Message{}).Text(); got != "  HTTP/1.1\r\n\r\n" {
		t.Errorf("%q", got)
	}
}

// A message has the methods of its first line.
func TestMessageOfALine(t *testing.T) {
	m := a("PUT", "/a?b", 0, "")
	if m.Line() != "PUT /a?b HTTP/1.1\r\n" || m.Path() != "/a" || !m.Idempotent() || m.Check() != api.OK {
		t.Errorf("%q %q", m.Line(), m.Path())
	}
}

// P10.1: requests of each kind, alone and one after the other.
func TestRequests(t *testing.T) {
	texts := []string{
		"GET / HTTP/1.1\r\nHost: a\r\n\r\n",
		"get /?q HTTP/1.1\r\nX:\r\nhOST: \tb \r\nx: 1\r\n\r\n",
		"POST /b HTTP/1.1\r\nHost: x\r\nContent-Length: 3\r\n\r\nabc",
		"POST /b HTTP/1.1\r\nContent-Length: 00\r\nHost: x\r\n\r\n",
		"A /c HTTP/1.1\r\nHost:x\r\ncontent-length:10\r\nContent-Length: 10\r\n\r\n\r\n\r\nGET / ",
		"PUT / HTTP/1.1\r\nhost: x\r\ntransfer-encoding: Chunked\r\n\r\n2\r\nhi\r\n08\r\n01234567\r\n0\r\n\r\n",
		"DELETE / HTTP/1.1\r\nHost: x\r\nTransfer-Encoding: chunked\r\n\r\n000\r\n\r\n",
	}
	messages := []request.Message{
		a("GET", "/", framing.None, "", "Host", "a"),
		a("get", "/?q", framing.None, "", "X", "", "hOST", "b", "x", "1"),
		a("POST", "/b", framing.Length, "abc", "Host", "x", "Content-Length", "3"),
		a("POST", "/b", framing.Length, "", "Content-Length", "00", "Host", "x"),
		a("A", "/c", framing.Length, "\r\n\r\nGET / ", "Host", "x", "content-length", "10", "Content-Length", "10"),
		a("PUT", "/", framing.Chunked, "hi01234567", "host", "x", "transfer-encoding", "Chunked"),
		a("DELETE", "/", framing.Chunked, "", "Host", "x", "Transfer-Encoding", "chunked"),
	}
	for i, text := range texts {
		parses(t, usual, seen{requests: shown(messages[i])}, text)
		agrees(t, usual, text)
		for j, other := range texts {
			parses(t, usual, seen{requests: shown(messages[i], messages[j])}, text+other)
			agrees(t, usual, text+other)
			parses(t, usual, seen{requests: shown(messages[i]), waits: true}, text+other[:len(other)-1])
		}
	}
	all := strings.Join(texts, "")
	parses(t, usual, seen{requests: shown(messages...)}, all)
	parses(t, usual, seen{requests: shown(messages...)}, strings.Split(all, "")...)
	agrees(t, usual, all+all+"GET")
}

// P10.1: a request is complete with its last byte, and waits as soon as there is a byte of it.
func TestWaits(t *testing.T) {
	for _, text := range []string{
		"GET / HTTP/1.1\r\nHost: a\r\n\r\n",
		"GET / HTTP/1.1\r\nHost: a\r\nContent-Length: 0\r\n\r\n",
		"GET / HTTP/1.1\r\nHost: a\r\nContent-Length: 5\r\n\r\n\r\n\r\n\n",
		"GET / HTTP/1.1\r\nHost: a\r\nTransfer-Encoding: chunked\r\n\r\n1\r\na\r\n00\r\n\r\n",
	} {
		p := request.New(usual)
		for range 3 {
			for i := range len(text) {
				if l, e := p.Feed(""); l != nil || e != api.OK || p.Waits() != (i > 0) {
					t.Errorf("%q: %+v, error %d, %v", text[:i], l, e, p.Waits())
				}
				l, e := p.Feed(text[i : i+1])
				if whole := i == len(text)-1; len(l) == 1 != whole || e != api.OK || p.Waits() == whole {
					t.Errorf("%q: %+v, error %d, %v", text[:i+1], l, e, p.Waits())
				}
			}
		}
	}
	if request.New(usual).Waits() {
		t.Error("nothing received")
	}
}

// P10.1: a first line that is no request line is detected at its end, and precedes all that comes later.
func TestFirstLine(t *testing.T) {
	for _, line := range []string{"", " ", "GET", "GET /", "GET / HTTP/1.0", "GET / HTTP/1.1 ", "GET  / HTTP/1.1", "GET * HTTP/1.1", "G(T / HTTP/1.1", "GET /\x00 HTTP/1.1", "HTTP/1.1 200 OK", "Host: a", "\xff"} {
		detects(t, usual, line+"\r\n", api.ErrForm)
		parses(t, usual, seen{e: api.ErrForm}, line+"\r\n"+strings.Repeat("x", 200))
		parses(t, request.Limits{Line: 40}, seen{e: api.ErrForm}, line+"\r\nHost: a\r\n\r\n")
	}
	detects(t, request.Limits{}, "\r\n", api.ErrForm)
	detects(t, request.Limits{}, "x", api.ErrLong)
	detects(t, request.Limits{Line: 2}, "GET", api.ErrLong)
}

// P10.1: the error of the head is detected where the head detects it.
func TestHeadErrors(t *testing.T) {
	const line, host = "GET / HTTP/1.1\r\n", "Host: a\r\n"
	for _, s := range []string{"\n", "GET / HTTP/1.1\n", line + "\n", line + "Host: a\n", line + host + "\n", "\r\r", line + "Host: a\rx", line + host + "\rx", line + "A : b\r\n", line + host + " x\r\n", line + host + "x\r\n", line + ":\r\n", line + "a: \x00\r\n"} {
		detects(t, usual, s, api.ErrForm)
	}
	detects(t, usual, "GET /"+strings.Repeat("a", 36), api.ErrLong)
	detects(t, usual, line+host+"A: "+strings.Repeat("b", 109), api.ErrLong)
	detects(t, usual, line+host+"A: "+strings.Repeat("b", 107)+"\r\n", api.ErrLong)
	detects(t, usual, line+host+"A:\r\nB:\r\nC:\r\nD:\r\n", api.ErrLong)
	parses(t, usual, seen{requests: shown(a("GET", "/"+strings.Repeat("a", 26), 0, "", "Host", "a", "A", "", "B", strings.Repeat("b", 99), "C", ""))},
		"GET /"+strings.Repeat("a", 26)+" HTTP/1.1\r\n"+host+"A:\r\nB:"+strings.Repeat("b", 99)+"\r\nC:\r\n\r\n")
}

// P10.1: there is exactly one Host field, and its value is not empty; this is detected at the end of the head.
func TestHost(t *testing.T) {
	for _, l := range []string{"", "X: a\r\n", "Hosts: a\r\n", "X-Host: a\r\n", "Host:\r\n", "host: \t \r\n", "Host: a\r\nHost: a\r\n", "Host: a\r\nX: b\r\nHOST: b\r\n", "Host: a\r\nHost:\r\n", "Host:\r\nHost: a\r\n", "Host:\r\nhost:\r\n", "Host: a\r\nhost: a\r\nHOST: a\r\n"} {
		detects(t, usual, "GET / HTTP/1.1\r\n"+l+"\r\n", api.ErrForm)
	}
	for _, l := range []string{"Host: a\r\n", "hOsT:a\r\n", "HOST: a, b\r\n", "X: 1\r\nHost: :\r\nHosts: a\r\n"} {
		if got := told(request.New(usual), "GET / HTTP/1.1\r\n"+l+"\r\n"); strings.Count(got.requests, "\n") != 1 || got.e != api.OK {
			t.Errorf("%q: %+v", l, got)
		}
	}
}

// P10.1: the error of layer 8 is detected at the end of the head, after that of the Host.
func TestFraming(t *testing.T) {
	for l, e := range map[string]api.Errno{
		"Content-Length: 11\r\n":                                       api.ErrBig,
		"Content-Length: 9999999999\r\n":                               api.ErrBig,
		"Content-Length: 11\r\nContent-Length: 11\r\n":                 api.ErrBig,
		"Content-Length:\r\n":                                          api.ErrForm,
		"Content-Length: -1\r\n":                                       api.ErrForm,
		"Content-Length: 1, 1\r\n":                                     api.ErrForm,
		"Content-Length: 99999999999\r\n":                              api.ErrForm,
		"Content-Length: 1\r\nContent-Length: 2\r\n":                   api.ErrForm,
		"Content-Length: 1\r\nContent-Length: 11\r\n":                  api.ErrForm,
		"Transfer-Encoding: gzip\r\n":                                  api.ErrForm,
		"Transfer-Encoding: gzip, chunked\r\n":                         api.ErrForm,
		"Transfer-Encoding:\r\n":                                       api.ErrForm,
		"Transfer-Encoding: chunked\r\nTransfer-Encoding: chunked\r\n": api.ErrForm,
		"Content-Length: 1\r\nTransfer-Encoding: chunked\r\n":          api.ErrForm,
		"Transfer-Encoding: chunked\r\nContent-Length: 11\r\n":         api.ErrForm,
	} {
		detects(t, usual, "POST / HTTP/1.1\r\nHost: a\r\n"+l+"\r\n", e)
		detects(t, usual, "POST / HTTP/1.1\r\n"+l+"Host: a\r\n\r\n", e)
		detects(t, usual, "POST / HTTP/1.1\r\n"+l+"\r\n", api.ErrForm)
		detects(t, usual, "POST / HTTP/1.1\r\nHost:\r\n"+l+"\r\n", api.ErrForm)
	}
}

// P10.1: the error of layer 9 is detected within the body.
func TestChunks(t *testing.T) {
	const head = "POST / HTTP/1.1\r\nHost: a\r\nTransfer-Encoding: chunked\r\n\r\n"
	for _, s := range []string{"x", "\r", "1;", "1\n", "123456789", "1\r\nab", "2\r\nab\r\n\r", "0\r\nA", "0\r\n\n"} {
		detects(t, usual, head+s, api.ErrForm)
	}
	for _, s := range []string{"b\r\n", "5\r\nabcde\r\n6\r\n", "a\r\n0123456789\r\n1\r\n", "ffffffff\r\n"} {
		detects(t, usual, head+s, api.ErrBig)
	}
	parses(t, usual, seen{requests: shown(a("POST", "/", framing.Chunked, "0123456789", "Host", "a", "Transfer-Encoding", "chunked"))}, head+"a\r\n0123456789\r\n0\r\n\r\n")
}

// P10.1: the limit of a body is passed on unchanged: a negative one permits no body, not even an empty one with a length or in chunks.
func TestBodyLimit(t *testing.T) {
	const head = "POST / HTTP/1.1\r\nHost: a\r\n"
	for _, most := range []int{-1, -2, math.MinInt} {
		l := usual
		l.Body = most
		detects(t, l, head+"Content-Length: 0\r\n\r\n", api.ErrBig)
		detects(t, l, head+"Content-Length: 1\r\n\r\n", api.ErrBig)
		detects(t, l, head+"Transfer-Encoding: chunked\r\n\r\n0\r\n", api.ErrBig)
		parses(t, l, seen{requests: shown(a("POST", "/", framing.None, "", "Host", "a"))}, head+"\r\n")
	}
	for most := range 12 {
		l := usual
		l.Body = most
		body := strings.Repeat("b", most)
		digits := strconv.Itoa(most)
		parses(t, l, seen{requests: shown(a("POST", "/", framing.Length, body, "Host", "a", "Content-Length", digits))}, head+"Content-Length: "+digits+"\r\n\r\n"+body)
		parses(t, l, seen{requests: shown(a("POST", "/", framing.Chunked, body, "Host", "a", "Transfer-Encoding", "chunked"))}, head+"Transfer-Encoding: chunked\r\n\r\n"+chunked.Encode(body))
		detects(t, l, head+"Content-Length: "+strconv.Itoa(most+1)+"\r\n\r\n", api.ErrBig)
	}
}

// P10.1: negative limits count as 0, so that no request fits in.
func TestNegativeLimits(t *testing.T) {
	for _, n := range []int{-1, math.MinInt} {
		const line, host = "GET / HTTP/1.1\r\n", "Host: a\r\n"
		detects(t, request.Limits{Line: n, Head: 99, Count: 9}, "G", api.ErrLong)
		detects(t, request.Limits{Line: n, Head: n, Count: n, Body: n}, "\r\n", api.ErrForm)
		detects(t, request.Limits{Line: 99, Head: n, Count: 9}, line+"H", api.ErrLong)
		detects(t, request.Limits{Line: 99, Head: 99, Count: n}, line+host, api.ErrLong)
		detects(t, request.Limits{Line: 99, Head: n, Count: n}, line+"\r\n", api.ErrForm)
	}
}

// P10.1: the limits hold for each request anew.
func TestLimitsOfEachRequest(t *testing.T) {
	const text = "POST / HTTP/1.1\r\nHost: a\r\nContent-Length: 2\r\n\r\nab"
	exact := request.Limits{Line: 15, Head: 28, Count: 2, Body: 2}
	m := a("POST", "/", framing.Length, "ab", "Host", "a", "Content-Length", "2")
	for n := range 5 {
		parses(t, exact, seen{requests: strings.Repeat(shown(m), n)}, strings.Repeat(text, n))
		parses(t, exact, seen{requests: strings.Repeat(shown(m), n)}, slices.Repeat([]string{text}, n)...)
	}
	for i, less := range []request.Limits{{Line: 14, Head: 28, Count: 2, Body: 2}, {Line: 15, Head: 27, Count: 2, Body: 2}, {Line: 15, Head: 28, Count: 1, Body: 2}, {Line: 15, Head: 28, Count: 2, Body: 1}} {
		parses(t, less, seen{e: []api.Errno{api.ErrLong, api.ErrLong, api.ErrLong, api.ErrBig}[i]}, text)
		agrees(t, less, text)
	}
}

// P10.1: each byte at each place of two requests, in place of another byte and between two.
func TestEachByte(t *testing.T) {
	for _, s := range []string{"GET / HTTP/1.1\r\nHost: a\r\n\r\nG", "A / HTTP/1.1\r\nHost: a\r\nContent-Length: 2\r\n\r\nabA /", "A / HTTP/1.1\r\nHost: a\r\nTransfer-Encoding: chunked\r\n\r\n1\r\nb\r\n0\r\n\r\nA"} {
		for i := range 256 {
			c := string([]byte{byte(i)})
			for at := range len(s) {
				for _, edited := range []string{s[:at] + c + s[at:], s[:at] + c + s[at+1:], s[:at] + s[at+1:]} {
					want := expected(usual, edited)
					parses(t, usual, want, edited)
					parses(t, usual, want, edited[:at], edited[at:])
				}
			}
			edited := s[:i%len(s)] + c + s[i%len(s)+1:]
			parses(t, usual, expected(usual, edited), strings.Split(edited, "")...)
		}
	}
}

// P10.1: three parts, divided at each pair of places.
func TestThreeParts(t *testing.T) {
	const s = "A / HTTP/1.1\r\nHost: a\r\nContent-Length: 2\r\n\r\n\r\nA / HTTP/1.1\r\nHost:b\r\nTransfer-Encoding:chunked\r\n\r\n01\r\nb\r\n0\r\n\r\nA /\rB"
	want := expected(usual, s)
	if strings.Count(want.requests, "\n") != 2 || want.e != api.ErrForm {
		t.Fatalf("%+v", want)
	}
	for j := range len(s) + 1 {
		for i := range j + 1 {
			parses(t, usual, want, s[:i], s[i:j], s[j:])
		}
	}
}

// same reports whether the text is parsed as exactly the request.
func same(m request.Message, text string) bool {
	p := request.New(open)
	l, e := p.Feed(text)
	return e == api.OK && !p.Waits() && shown(l...) == shown(m)
}

// valid are requests without a body or with a length, of all kinds of parts.
func valid() []request.Message {
	var l []request.Message
	for _, method := range []string{"GET", "x", "!#$%&'*+-.^_`|~09azAZ", strings.Repeat("M", 64)} {
		for _, target := range []string{"/", "/a?b=c&d", "/HTTP/1.1", "/!\"#~"} {
			for _, extra := range [][]string{nil, {"X", ""}, {"Cookie", "a=b; c", "cookie", "d \t e"}, {"Connection", "close", "TE", ":"}} {
				l = append(l, a(method, target, framing.None, "", slices.Concat([]string{"Host", "h:1"}, extra)...))
				l = append(l, a(method, target, framing.None, "", slices.Concat(extra, []string{"hOST", "h"})...))
				for _, body := range []string{"", "b", "\r\n\r\n", "GET / HTTP/1.1\r\nHost: a\r\n\r\n", "0\r\n\r\n", "\x00\xff"} {
					length := []string{"Host", "h", "content-LENGTH", strconv.Itoa(len(body))}
					l = append(l, a(method, target, framing.Length, body, slices.Concat(extra, length)...))
					l = append(l, a(method, target, framing.Length, body, slices.Concat(length, extra, []string{"Content-Length", length[3]})...))
				}
			}
		}
	}
	return l
}

// P10.2: a valid request without a body or with a length is parsed from its Text, also among others.
func TestOneForm(t *testing.T) {
	text, all := "", valid()
	for _, m := range all {
		if !same(m, m.Text()) {
			t.Errorf("%q is not parsed from its text", m.Text())
		}
		text += m.Text()
	}
	parses(t, open, seen{requests: shown(all...)}, text)
}

// P10.2: a request of another form is not parsed from its Text.
func TestNoOtherForm(t *testing.T) {
	for _, m := range []request.Message{
		{}, a("GET", "/", framing.None, ""), a("", "/", framing.None, "", "Host", "a"), a("GET", "", framing.None, "", "Host", "a"), a("G T", "/", framing.None, "", "Host", "a"), a("GET", "a", framing.None, "", "Host", "a"),
		a("GET", "/ b", framing.None, "", "Host", "a"), a("GET", "/ HTTP/1.1\r\nX: y", framing.None, "", "Host", "a"), a("GET / HTTP/1.1\r\nHost: a\r\n\r\nGET", "/", framing.None, "", "Host", "a"), a(strings.Repeat("M", 65), "/", framing.None, "", "Host", "a"),
		a("GET", "/", framing.None, "", "Host", ""), a("GET", "/", framing.None, "", "Host", "a", "Host", "a"), a("GET", "/", framing.None, "", "Host", " a"), a("GET", "/", framing.None, "", "Host", "a\r\nX: y"), a("GET", "/", framing.None, "", "Host", "a\r\n\r\n"),
		a("GET", "/", framing.None, "", "Host", "a", "", "x"), a("GET", "/", framing.None, "", "Host", "a", "X ", "x"), a("GET", "/", framing.None, "", "Host", "a", "X:", "x"), a("GET", "/", framing.None, "", "Host: a\r\nX", "x"), a("GET", "/", framing.None, "", "Host", "a", "X", "\x00"),
		a("GET", "/", framing.None, "b", "Host", "a"), a("GET", "/", framing.Length, "", "Host", "a"), a("GET", "/", framing.Close, "", "Host", "a"), a("GET", "/", framing.Close, "b", "Host", "a"), a("GET", "/", -1, "", "Host", "a"),
		a("GET", "/", framing.None, "", "Host", "a", "Content-Length", "0"), a("GET", "/", framing.Length, "b", "Host", "a", "Content-Length", "0"), a("GET", "/", framing.Length, "b", "Host", "a", "Content-Length", "2"), a("GET", "/", framing.Length, "b", "Host", "a", "Content-Length", "1", "Content-Length", "01"),
		a("GET", "/", framing.Length, "b", "Host", "a", "Content-Length", "+1"), a("GET", "/", framing.Length, "b", "Host", "a", "Content-Length", "1", "Transfer-Encoding", "chunked"), a("GET", "/", framing.None, "", "Host", "a", "Transfer-Encoding", "identity"),
		a("GET", "/", framing.Chunked, "b", "Host", "a", "Transfer-Encoding", "chunked"), a("GET", "/", framing.Chunked, "", "Host", "a", "Transfer-Encoding", "chunked"), a("GET", "/", framing.Chunked, "0\r\n\r\n", "Host", "a", "Transfer-Encoding", "chunked"),
	} {
		if same(m, m.Text()) {
			t.Errorf("%+v is parsed from %q", m, m.Text())
		}
	}
}

// plain returns the text of a request without blanks around the values of its fields.
func plain(text string) string {
	head, body, _ := strings.Cut(text, "\r\n\r\n")
	lines := strings.Split(head, "\r\n")
	for i, line := range lines[1:] {
		name, value, _ := strings.Cut(line, ":")
		lines[i+1] = name + ":" + strings.Trim(value, " \t")
	}
	return strings.Join(lines, "\r\n") + "\r\n\r\n" + body
}

// P10.2: whatever bytes are one request without a body or with a length, they are its Text, except for blanks around values.
func TestNothingElse(t *testing.T) {
	parsed := 0
	for _, s := range []string{"GET / HTTP/1.1\r\nHost: a\r\nX:y\r\n\r\n", "P /b HTTP/1.1\r\nHost: a\r\nContent-Length: 03\r\n\r\na\r\n"} {
		for i := range 256 {
			c := string([]byte{byte(i)})
			for at := range len(s) {
				for _, edited := range []string{s[:at] + c + s[at:], s[:at] + c + s[at+1:], s[:at] + s[at+1:]} {
					p := request.New(open)
					l, e := p.Feed(edited)
					if e != api.OK || p.Waits() || len(l) != 1 {
						continue
					}
					parsed++
					if plain(edited) != plain(l[0].Text()) || !same(l[0], l[0].Text()) {
						t.Errorf("%q is parsed as %+v", edited, l[0])
					}
				}
			}
		}
	}
	if parsed < 5000 {
		t.Error(parsed)
	}
}

// Rule 5: the fields of requests are new memory.
func TestRequestsAreNew(t *testing.T) {
	const text = "GET / HTTP/1.1\r\nHost: a\r\nX: b\r\nY: c\r\n\r\n"
	p := request.New(usual)
	l, _ := p.Feed(text + text)
	l[0].Fields[0].Value = "changed"
	_ = append(l[0].Fields[:1], fields.Field{Name: "changed"})
	more, _ := p.Feed(text)
	want := shown(a("GET", "/", framing.None, "", "Host", "a", "X", "b", "Y", "c"))
	if shown(l[1]) != want || shown(more...) != want {
		t.Errorf("%+v, %+v", l, more)
	}
}

// Rule 1: the zero value is a parser whose limits are 0.
func TestZero(t *testing.T) {
	var p, q request.Parser
	if got := told(&p, "G"); got != (seen{e: api.ErrLong}) {
		t.Errorf("%+v", got)
	}
	if got := told(&q, "\r", "\nG"); got != (seen{e: api.ErrForm}) {
		t.Errorf("%+v", got)
	}
}
