package response_test

import (
	"math"
	"slices"
	"strconv"
	"strings"
	"testing"

	"steward/api"
	"steward/chunked"
	"steward/fields"
	"steward/framing"
	"steward/request"
	"steward/response"
	"steward/start"
)

// usual are limits that the responses here fit in, unless they are to be too long.
var usual = request.Limits{Line: 40, Head: 120, Count: 4, Body: 10}

// seen is what a parser tells, with its response as a text.
type seen struct {
	rest                  string
	e                     api.Errno
	begun, done, persists bool
	message               string
}

// shown returns all parts of the response, such that different responses are different texts.
func shown(m response.Message) string {
	text := strconv.Itoa(m.Code) + strconv.Quote(m.Reason) + strconv.Itoa(m.Kind) + strconv.Quote(m.Body)
	for _, f := range m.Fields {
		text += strconv.Quote(f.Name) + strconv.Quote(f.Value)
	}
	return text
}

// none is the text of no response.
var none = shown(response.Message{})

// of returns the fields with the names and values, in turn.
func of(l ...string) fields.Fields {
	var out fields.Fields
	for i := 0; i < len(l); i += 2 {
		out = append(out, fields.Field{Name: l[i], Value: l[i+1]})
	}
	return out
}

// a returns the response of its parts.
func a(code int, reason string, kind int, body string, l ...string) response.Message {
	return response.Message{Status: start.Status{Code: code, Reason: reason}, Fields: of(l...), Body: body, Kind: kind}
}

// told feeds the parts to the parser and returns what it tells then, with all bytes that were left.
func told(p *response.Parser, parts ...string) seen {
	var x seen
	for _, part := range parts {
		rest, e := p.Feed(part)
		x.rest, x.e = x.rest+rest, e
	}
	x.begun, x.done, x.persists, x.message = p.Begun(), p.Done(), p.Persists(), shown(p.Message())
	return x
}

// ended ends the connection and returns what the parser tells then, except for the bytes that were left.
func ended(p *response.Parser) seen {
	e := p.End()
	return seen{e: e, begun: p.Begun(), done: p.Done(), persists: p.Persists(), message: shown(p.Message())}
}

// bodyOf returns the body at the beginning of s, what follows it, whether it is complete, and its error.
func bodyOf(kind, n, most int, s string, ended bool) (body, rest string, complete bool, e api.Errno) {
	switch {
	case kind == framing.Chunked:
		d := chunked.New(most)
		rest, e = d.Feed(s)
		return d.Body(), rest, d.Done(), e
	case kind == framing.Close && len(s) > max(most, 0):
		return "", "", false, api.ErrBig
	case kind == framing.Close:
		return s, "", ended, api.OK
	case len(s) < n:
		return "", "", false, api.OK
	}
	return s[:n], s[n:], true, api.OK
}

// responseOf returns the response at the beginning of s, what follows it, whether it is complete, and its error.
func responseOf(l request.Limits, method, s string, ended bool) (m response.Message, rest string, complete bool, e api.Errno) {
	line := request.NewHead(l)
	if _, e = line.Feed(strings.SplitAfterN(s, "\n", 2)[0]); line.Begun() {
		m.Status, e = start.ParseStatus(line.First())
	}
	if e != api.OK {
		return m, "", false, e
	}
	head := request.NewHead(l)
	if rest, e = head.Feed(s); !head.Done() {
		return m, "", false, e
	}
	m.Fields = head.Fields()
	kind, n, e := framing.Response(method, m.Code, m.Fields, l.Body)
	if e != api.OK {
		return m, "", false, e
	}
	m.Kind = kind
	m.Body, rest, complete, e = bodyOf(kind, n, l.Body, rest, ended)
	return m, rest, complete, e
}

// expected is what a parser has to tell when all of s has arrived and, perhaps, the connection has ended.
func expected(l request.Limits, method, s string, ended bool) seen {
	m, rest, complete, e := responseOf(l, method, s, ended)
	if e == api.OK && !complete && ended {
		e = api.ErrEnd
	}
	if e != api.OK || !complete {
		return seen{e: e, begun: s != "", message: none}
	}
	closes := false
	for _, value := range m.Fields.All("Connection") {
		for part := range strings.SplitSeq(strings.ToLower(value), ",") {
			closes = closes || strings.Trim(part, " \t") == "close"
		}
	}
	return seen{rest: rest, begun: true, done: true, persists: m.Kind != framing.Close && !closes, message: shown(m)}
}

// parses checks what a new parser tells after the parts.
func parses(t *testing.T, l request.Limits, method string, want seen, parts ...string) {
	t.Helper()
	if got := told(response.New(l, method), parts...); got != want {
		t.Errorf("%+v, %s, %q: %+v, want %+v", l, method, parts, got, want)
	}
}

// endsAs checks what a new parser tells after the parts and the end of the connection, and that nothing changes that.
func endsAs(t *testing.T, l request.Limits, method string, want seen, parts ...string) {
	t.Helper()
	p := response.New(l, method)
	told(p, parts...)
	want.rest = ""
	for range 2 {
		if got := ended(p); got != want {
			t.Errorf("%+v, %s, %q and the end: %+v, want %+v", l, method, parts, got, want)
		}
		more := want
		if want.done {
			more.rest = "HTTP/1.1 200 OK\r\n\r\n"
		}
		if got := told(p, "HTTP/1.1 200 OK\r\n\r\n"); got != more {
			t.Errorf("%+v, %s, %q, the end, and more: %+v, want %+v", l, method, parts, got, more)
		}
	}
}

// agrees checks the bytes undivided, in two parts at each place, and one by one, where each step is checked,
// and the end of the connection after each of them.
func agrees(t *testing.T, l request.Limits, method, s string) {
	t.Helper()
	want := expected(l, method, s, false)
	parses(t, l, method, want, s)
	endsAs(t, l, method, expected(l, method, s, true), s)
	one := response.New(l, method)
	rest := ""
	for i := range len(s) {
		parses(t, l, method, want, s[:i], s[i:])
		endsAs(t, l, method, expected(l, method, s[:i], true), strings.Split(s[:i], "")...)
		got := told(one, s[i:i+1])
		rest += got.rest
		got.rest = rest
		if want := expected(l, method, s[:i+1], false); got != want {
			t.Errorf("%+v, %s, %q byte by byte: %+v, want %+v", l, method, s[:i+1], got, want)
		}
	}
}

// detects checks that the last byte of s is the one at which the error is detected, and that it is kept.
func detects(t *testing.T, l request.Limits, s string, e api.Errno) {
	t.Helper()
	p := response.New(l, "GET")
	if got := told(p, s[:len(s)-1]); got != (seen{begun: len(s) > 1, message: none}) {
		t.Errorf("%+v, %q without its last byte: %+v", l, s, got)
	}
	for _, more := range []string{s[len(s)-1:], "", "HTTP/1.1 200 OK\r\nContent-Length: 0\r\n\r\n", "\r\n\r\n", "x"} {
		if got := told(p, more); got != (seen{e: e, begun: true, message: none}) {
			t.Errorf("%+v, %q, then %q: %+v, want error %d", l, s, more, got, e)
		}
	}
	if got := ended(p); got != (seen{e: e, begun: true, message: none}) {
		t.Errorf("%+v, %q, then the end: %+v, want error %d", l, s, got, e)
	}
	agrees(t, l, "GET", s)
	agrees(t, l, "GET", s+"\r\nA: b\r\n\r\nx")
}

// P11.1: Text is the line, the fields, an empty line and the body as it is.
func TestText(t *testing.T) {
	for want, m := range map[string]response.Message{
		"HTTP/1.1 200 OK\r\n\r\n":                                         a(200, "OK", 0, ""),
		"HTTP/1.1 404 \r\nb: \r\nA: 1\r\n\r\nx\r\n\r\ny":                  a(404, "", framing.Length, "x\r\n\r\ny", "b", "", "A", "1"),
		"HTTP/1.1 200 a  b\r\nTransfer-Encoding: chunked\r\n\r\nab":       a(200, "a  b", framing.Chunked, "ab", "Transfer-Encoding", "chunked"),
		"HTTP/1.1 599 x\r\nContent-Length: 9\r\n\r\n\x00\xff":             a(600, "x", 77, "\x00\xff", "Content-Length", "9"),
		"HTTP/1.1 204 \r\nContent-Length: 0\r\nContent-Length: 0\r\n\r\n": a(204, "", framing.None, "", "Content-Length", "0", "Content-Length", "0"),
	} {
		if got := m.Text(); got != want {
			t.Errorf("%q, want %q", got, want)
		}
	}
	if got := (response.Message{}).Text(); got != "HTTP/1.1 200 \r\n\r\n" {
		t.Errorf("%q", got)
	}
}

// A message has the method of its first line.
func TestMessageOfALine(t *testing.T) {
	if m := a(503, "x", 0, "b", "c", "d"); m.Line() != "HTTP/1.1 503 x\r\n" {
		t.Errorf("%q", m.Line())
	}
}

// sample is a response, as it arrives and as it is parsed.
type sample struct {
	method, text string
	message      response.Message
	persists     bool
}

// samples are responses of each kind that do not end with the connection.
func samples() []sample {
	return []sample{
		{"GET", "HTTP/1.1 200 OK\r\nContent-Length: 3\r\n\r\nabc", a(200, "OK", framing.Length, "abc", "Content-Length", "3"), true},
		{"PUT", "HTTP/1.1 500\r\nContent-Length: 00\r\nX:\r\nx: \ty \r\n\r\n", a(500, "", framing.Length, "", "Content-Length", "00", "X", "", "x", "y"), true},
		{"POST", "HTTP/1.1 404 not  here\r\ncontent-length:10\r\nContent-Length: 10\r\n\r\n\r\n\r\nHTTP/1", a(404, "not  here", framing.Length, "\r\n\r\nHTTP/1", "content-length", "10", "Content-Length", "10"), true},
		{"GET", "HTTP/1.1 200 \r\ntransfer-encoding: Chunked\r\n\r\n2\r\nhi\r\n08\r\n01234567\r\n0\r\n\r\n", a(200, "", framing.Chunked, "hi01234567", "transfer-encoding", "Chunked"), true},
		{"GET", "HTTP/1.1 200 OK\r\nTransfer-Encoding: chunked\r\nConnection: x, Close\r\n\r\n000\r\n\r\n", a(200, "OK", framing.Chunked, "", "Transfer-Encoding", "chunked", "Connection", "x, Close"), false},
		{"GET", "HTTP/1.1 204 None\r\nConnection: keep-alive\r\n\r\n", a(204, "None", framing.None, "", "Connection", "keep-alive"), true},
		{"GET", "HTTP/1.1 304 x\r\nContent-Length: 300\r\n\r\n", a(304, "x", framing.None, "", "Content-Length", "300"), true},
		{"HEAD", "HTTP/1.1 200 OK\r\nContent-Length: 5\r\ncontent-length: 6\r\n\r\n", a(200, "OK", framing.None, "", "Content-Length", "5", "content-length", "6"), true},
		{"HEAD", "HTTP/1.1 502 OK\r\nTransfer-Encoding: gzip\r\nconnection: close\r\n\r\n", a(502, "OK", framing.None, "", "Transfer-Encoding", "gzip", "connection", "close"), false},
		{"HEAD", "HTTP/1.1 599 z\r\n\r\n", a(599, "z", framing.None, ""), true},
	}
}

// P11.1, P11.2: responses of each kind, and exactly the bytes after them are left.
func TestResponses(t *testing.T) {
	for _, s := range samples() {
		want := seen{begun: true, done: true, persists: s.persists, message: shown(s.message)}
		for _, more := range []string{"", "\n", "\r\n", "\r\n\r\n", "x", "0\r\n\r\n", "HTTP/1.1 200 OK\r\n\r\n", s.text} {
			want.rest = more
			parses(t, usual, s.method, want, s.text+more)
			parses(t, usual, s.method, want, s.text, more)
			parses(t, usual, s.method, want, strings.Split(s.text+more, "")...)
			endsAs(t, usual, s.method, want, s.text+more)
			agrees(t, usual, s.method, s.text+more)
		}
		for i := range len(s.text) {
			parses(t, usual, s.method, seen{begun: i > 0, message: none}, s.text[:i])
			endsAs(t, usual, s.method, seen{e: api.ErrEnd, begun: i > 0, message: none}, s.text[:i])
		}
	}
}

// P11.2: a response that is complete leaves all bytes that arrive later, and is not changed by them.
func TestAfterTheResponse(t *testing.T) {
	for _, s := range samples() {
		p := response.New(usual, s.method)
		want := seen{begun: true, done: true, persists: s.persists, message: shown(s.message)}
		told(p, s.text)
		for _, more := range []string{"", "x", "\n", "HTTP/1.1 200 OK\r\n", strings.Repeat("x", 1000), s.text} {
			want.rest = more
			if got := told(p, more); got != want {
				t.Errorf("%q, then %q: %+v", s.text, more, got)
			}
		}
	}
}

// P11.1: a body that ends with the connection is complete at its end, however long it is until then.
func TestClose(t *testing.T) {
	for _, head := range []string{"HTTP/1.1 200 OK\r\n\r\n", "HTTP/1.1 404\r\nX: y\r\nConnection: keep-alive\r\n\r\n", "HTTP/1.1 200 \r\nConnection: close\r\n\r\n"} {
		for _, body := range []string{"", "a", "\r\n", "0\r\n\r\n", "\x00\xff", "0123456789"} {
			m := expected(usual, "GET", head+body, true)
			if m.e != api.OK || m.persists || !strings.Contains(m.message, strconv.Itoa(framing.Close)+strconv.Quote(body)) {
				t.Fatalf("%+v", m)
			}
			parses(t, usual, "GET", seen{begun: true, message: none}, head+body)
			parses(t, usual, "GET", seen{begun: true, message: none}, head, body)
			endsAs(t, usual, "GET", m, head+body)
			endsAs(t, usual, "GET", m, head, body)
			endsAs(t, usual, "GET", m, strings.Split(head+body, "")...)
			agrees(t, usual, "GET", head+body)
		}
		for i := range len(head) {
			endsAs(t, usual, "GET", seen{e: api.ErrEnd, begun: i > 0, message: none}, head[:i])
		}
	}
	endsAs(t, usual, "GET", seen{begun: true, done: true, message: shown(a(200, "OK", framing.Close, "all"))}, "HTTP/1.1 200 OK\r\n\r\nal", "l")
}

// P11.1: a body that ends with the connection has up to Body bytes, none if that is negative, and one more is ErrBig.
func TestCloseLimit(t *testing.T) {
	const head = "HTTP/1.1 200 OK\r\n\r\n"
	for _, most := range []int{math.MinInt, -2, -1, 0, 1, 2, 10, 100} {
		l := usual
		l.Body = most
		body := strings.Repeat("b", max(most, 0))
		endsAs(t, l, "GET", seen{begun: true, done: true, message: shown(a(200, "OK", framing.Close, body))}, head+body)
		for _, c := range []string{"b", "\r", "\x00"} {
			detects(t, l, head+body+c, api.ErrBig)
			parses(t, l, "GET", seen{e: api.ErrBig, begun: true, message: none}, head, body+c+"more")
			parses(t, l, "GET", seen{e: api.ErrBig, begun: true, message: none}, head+body, c)
		}
	}
	l := usual
	l.Body = math.MaxInt
	endsAs(t, l, "GET", seen{begun: true, done: true, message: shown(a(200, "OK", framing.Close, strings.Repeat("ab", 5000)))}, head+"ab", strings.Repeat("ab", 4999))
}

// P11.1: the end before any byte, and a parser that has received nothing.
func TestNothing(t *testing.T) {
	for _, method := range []string{"GET", "HEAD", ""} {
		parses(t, usual, method, seen{message: none})
		parses(t, usual, method, seen{message: none}, "")
		parses(t, usual, method, seen{message: none}, "", "", "")
		endsAs(t, usual, method, seen{e: api.ErrEnd, message: none})
		endsAs(t, usual, method, seen{e: api.ErrEnd, message: none}, "")
	}
}

// P11.1: Begun from the first byte on, whichever it is, and also after an error.
func TestBegun(t *testing.T) {
	for i := range 256 {
		p := response.New(usual, "GET")
		if p.Feed(""); p.Begun() {
			t.Fatal("begun without a byte")
		}
		if p.Feed(string([]byte{byte(i)})); !p.Begun() {
			t.Errorf("not begun after the byte %d", i)
		}
		if p.End(); !p.Begun() {
			t.Errorf("not begun after the byte %d and the end", i)
		}
	}
}

// P11.1: Persists is false until the response is complete, for a body that ends with the connection, and if a Connection contains close.
func TestPersists(t *testing.T) {
	for l, want := range map[string]bool{
		"": true, "Connection: keep-alive\r\n": true, "Connection: closed\r\n": true, "X: close\r\n": true, "Connection: close\r\n": false, "connection: x,CLOSE\r\n": false, "Connection: a\r\nCONNECTION: , close\r\n": false,
	} {
		for _, end := range []string{"Content-Length: 1\r\n\r\na", "Transfer-Encoding: chunked\r\n\r\n0\r\n\r\n"} {
			s := "HTTP/1.1 200 OK\r\n" + l + end
			p := response.New(usual, "GET")
			if p.Feed(s[:len(s)-1]); p.Persists() {
				t.Errorf("%q persists before its end", s)
			}
			if p.Feed(s[len(s)-1:]); p.Persists() != want {
				t.Errorf("%q: %v", s, p.Persists())
			}
			if p.End(); p.Persists() != want {
				t.Errorf("%q and the end: %v", s, p.Persists())
			}
		}
		p := response.New(usual, "GET")
		if p.Feed("HTTP/1.1 200 OK\r\n" + l + "\r\n"); p.Persists() || p.End() != api.OK || p.Persists() {
			t.Errorf("%q persists, although its body ends with the connection", l)
		}
	}
}

// P11.1: a first line that is no status line is detected at its end, and precedes all that comes later.
func TestFirstLine(t *testing.T) {
	for _, line := range []string{"", " ", "HTTP/1.1", "HTTP/1.1 ", "HTTP/1.1 20", "HTTP/1.1 2000", "HTTP/1.1 199 x", "HTTP/1.1 100 Continue", "HTTP/1.1 600 x", "HTTP/1.0 200 OK", "http/1.1 200 OK", "HTTP/1.1  200 OK", "HTTP/1.1 200  OK", "HTTP/1.1 200 OK ", "HTTP/1.1 200 \xff", " HTTP/1.1 200 OK", "GET / HTTP/1.1", "Host: a", "\xff"} {
		detects(t, usual, line+"\r\n", api.ErrForm)
		parses(t, usual, "GET", seen{e: api.ErrForm, begun: true, message: none}, line+"\r\n"+strings.Repeat("x", 200))
		parses(t, request.Limits{Line: 40}, "HEAD", seen{e: api.ErrForm, begun: true, message: none}, line+"\r\nA: b\r\n\r\n")
	}
	detects(t, request.Limits{}, "\r\n", api.ErrForm)
	detects(t, request.Limits{}, "x", api.ErrLong)
	detects(t, request.Limits{Line: 14, Head: 9, Count: 9}, "HTTP/1.1 200 OK", api.ErrLong)
	detects(t, request.Limits{Line: 3}, "abcd", api.ErrLong)
}

// P11.1: the error of the head is detected where the head detects it, also for a response without a body.
func TestHeadErrors(t *testing.T) {
	const line = "HTTP/1.1 200 OK\r\n"
	for _, s := range []string{"\n", "HTTP/1.1 200 OK\n", line + "\n", line + "A: b\n", line + "A: b\r\n\n", "\r\r", line + "\rx", line + "A: b\rx", line + "A : b\r\n", line + "A: b\r\n c\r\n", line + "x\r\n", line + ":\r\n", line + "a: \x00\r\n"} {
		detects(t, usual, s, api.ErrForm)
		agrees(t, usual, "HEAD", s)
	}
	detects(t, usual, "HTTP/1.1 200 "+strings.Repeat("a", 28), api.ErrLong)
	detects(t, usual, line+"A: "+strings.Repeat("b", 118), api.ErrLong)
	detects(t, usual, line+"A: "+strings.Repeat("b", 116)+"\r\n", api.ErrLong)
	detects(t, usual, line+"A:\r\nB:\r\nC:\r\nD:\r\nE:\r\n", api.ErrLong)
	m := a(204, strings.Repeat("a", 27), framing.None, "", "A", "", "B", strings.Repeat("b", 102), "C", "", "D", "d")
	parses(t, usual, "GET", seen{begun: true, done: true, persists: true, message: shown(m)}, "HTTP/1.1 204 "+strings.Repeat("a", 27)+"\r\nA:\r\nB: "+strings.Repeat("b", 102)+"\r\nC:\r\nD:d\r\n\r\n")
}

// P11.1: the error of layer 8 is detected at the end of the head, but there is none without a body.
func TestFraming(t *testing.T) {
	for l, e := range map[string]api.Errno{
		"Content-Length: 11\r\n":                                       api.ErrBig,
		"Content-Length: 9999999999\r\n":                               api.ErrBig,
		"Content-Length: 11\r\nContent-Length: 11\r\n":                 api.ErrBig,
		"Content-Length:\r\n":                                          api.ErrForm,
		"Content-Length: -1\r\n":                                       api.ErrForm,
		"Content-Length: 1, 1\r\n":                                     api.ErrForm,
		"Content-Length: 99999999999\r\n":                              api.ErrForm,
		"Content-Length: 1\r\nContent-Length: 2\r\n":                   api.ErrForm,
		"Content-Length: 1\r\nContent-Length: 11\r\n":                  api.ErrForm,
		"Transfer-Encoding: gzip\r\n":                                  api.ErrForm,
		"Transfer-Encoding: gzip, chunked\r\n":                         api.ErrForm,
		"Transfer-Encoding:\r\n":                                       api.ErrForm,
		"Transfer-Encoding: chunked\r\nTransfer-Encoding: chunked\r\n": api.ErrForm,
		"Content-Length: 1\r\nTransfer-Encoding: chunked\r\n":          api.ErrForm,
		"Transfer-Encoding: chunked\r\nContent-Length: 11\r\n":         api.ErrForm,
	} {
		detects(t, usual, "HTTP/1.1 200 OK\r\n"+l+"\r\n", e)
		detects(t, usual, "HTTP/1.1 205 OK\r\nX: y\r\n"+l+"\r\n", e)
		for _, s := range []string{"HTTP/1.1 204 OK\r\n", "HTTP/1.1 304 OK\r\n"} {
			parses(t, usual, "GET", expected(usual, "GET", s+l+"\r\nx", false), s+l+"\r\nx")
			if got := told(response.New(usual, "GET"), s+l+"\r\nx"); !got.done || got.rest != "x" {
				t.Errorf("%q: %+v", s+l, got)
			}
		}
		if got := told(response.New(usual, "HEAD"), "HTTP/1.1 200 OK\r\n"+l+"\r\nx"); !got.done || got.rest != "x" || got.e != api.OK {
			t.Errorf("%q: %+v", l, got)
		}
	}
}

// P11.1: methods are distinguished by case, and only HEAD, 204 and 304 have no body.
func TestBodies(t *testing.T) {
	for _, method := range []string{"GET", "HEAD", "head", "HEADS", "", "POST", "CONNECT"} {
		for code := 200; code < 600; code++ {
			line := "HTTP/1.1 " + strconv.Itoa(code) + "\r\n"
			kind, body, rest := framing.Length, "a", "b"
			if method == "HEAD" || code == 204 || code == 304 {
				kind, body, rest = framing.None, "", "ab"
			}
			want := seen{rest: rest, begun: true, done: true, persists: true, message: shown(a(code, "", kind, body, "Content-Length", "1"))}
			parses(t, usual, method, want, line+"Content-Length: 1\r\n\r\nab")
		}
	}
}

// P11.1: the error of layer 9 is detected within the body.
func TestChunks(t *testing.T) {
	const head = "HTTP/1.1 200 OK\r\nTransfer-Encoding: chunked\r\n\r\n"
	for _, s := range []string{"x", "\r", "1;", "1\n", "123456789", "1\r\nab", "2\r\nab\r\n\r", "0\r\nA", "0\r\n\n"} {
		detects(t, usual, head+s, api.ErrForm)
	}
	for _, s := range []string{"b\r\n", "5\r\nabcde\r\n6\r\n", "a\r\n0123456789\r\n1\r\n", "ffffffff\r\n"} {
		detects(t, usual, head+s, api.ErrBig)
	}
	m := a(200, "OK", framing.Chunked, "0123456789", "Transfer-Encoding", "chunked")
	parses(t, usual, "GET", seen{rest: "\r\n", begun: true, done: true, persists: true, message: shown(m)}, head+"a\r\n0123456789\r\n0\r\n\r\n\r\n")
}

// P11.1: the limit of a body with a length or in chunks is passed on unchanged: a negative one permits none, not even an empty one.
func TestBodyLimit(t *testing.T) {
	const line = "HTTP/1.1 200 OK\r\n"
	for _, most := range []int{-1, -2, math.MinInt} {
		l := usual
		l.Body = most
		detects(t, l, line+"Content-Length: 0\r\n\r\n", api.ErrBig)
		detects(t, l, line+"Content-Length: 1\r\n\r\n", api.ErrBig)
		detects(t, l, line+"Transfer-Encoding: chunked\r\n\r\n0\r\n", api.ErrBig)
		parses(t, l, "HEAD", seen{begun: true, done: true, persists: true, message: shown(a(200, "OK", framing.None, ""))}, line+"\r\n")
	}
	for most := range 12 {
		l := usual
		l.Body = most
		body := strings.Repeat("b", most)
		digits := strconv.Itoa(most)
		done := seen{rest: "b", begun: true, done: true, persists: true}
		done.message = shown(a(200, "OK", framing.Length, body, "Content-Length", digits))
		parses(t, l, "GET", done, line+"Content-Length: "+digits+"\r\n\r\n"+body+"b")
		done.message = shown(a(200, "OK", framing.Chunked, body, "Transfer-Encoding", "chunked"))
		parses(t, l, "GET", done, line+"Transfer-Encoding: chunked\r\n\r\n"+chunked.Encode(body)+"b")
		detects(t, l, line+"Content-Length: "+strconv.Itoa(most+1)+"\r\n\r\n", api.ErrBig)
	}
}

// P11.1: negative limits of the head count as 0.
func TestNegativeLimits(t *testing.T) {
	const line = "HTTP/1.1 200 OK\r\n"
	for _, n := range []int{-1, math.MinInt} {
		detects(t, request.Limits{Line: n, Head: 99, Count: 9}, "H", api.ErrLong)
		detects(t, request.Limits{Line: n, Head: n, Count: n, Body: n}, "\r\n", api.ErrForm)
		detects(t, request.Limits{Line: 99, Head: n, Count: 9}, line+"H", api.ErrLong)
		detects(t, request.Limits{Line: 99, Head: 99, Count: n}, line+"A: b\r\n", api.ErrLong)
		none := a(204, "", framing.None, "")
		parses(t, request.Limits{Line: 99, Head: n, Count: n, Body: n}, "GET", seen{rest: "x", begun: true, done: true, persists: true, message: shown(none)}, "HTTP/1.1 204\r\n\r\nx")
	}
}

// P11.1, P11.2: each byte at each place of a response, in place of another byte and between two.
func TestEachByte(t *testing.T) {
	for _, s := range []string{"HTTP/1.1 200 OK\r\nA: b\r\n\r\nx", "HTTP/1.1 200\r\nContent-Length: 2\r\n\r\nabH", "HTTP/1.1 404 \r\nTransfer-Encoding: chunked\r\n\r\n1\r\nb\r\n0\r\n\r\nH"} {
		for i := range 256 {
			c := string([]byte{byte(i)})
			for at := range len(s) {
				for _, edited := range []string{s[:at] + c + s[at:], s[:at] + c + s[at+1:], s[:at] + s[at+1:]} {
					want := expected(usual, "GET", edited, false)
					parses(t, usual, "GET", want, edited)
					parses(t, usual, "GET", want, edited[:at], edited[at:])
					endsAs(t, usual, "GET", expected(usual, "GET", edited, true), edited)
				}
			}
			edited := s[:i%len(s)] + c + s[i%len(s)+1:]
			parses(t, usual, "GET", expected(usual, "GET", edited, false), strings.Split(edited, "")...)
		}
	}
}

// P11.1: three parts, divided at each pair of places.
func TestThreeParts(t *testing.T) {
	for _, s := range samples() {
		text := s.text + "\nx"
		want := expected(usual, s.method, text, false)
		if !want.done || want.rest != "\nx" {
			t.Fatalf("%+v", want)
		}
		for j := range len(text) + 1 {
			for i := range j + 1 {
				parses(t, usual, s.method, want, text[:i], text[i:j], text[j:])
			}
		}
	}
}

// P11.1: the responses of this proxy, with a reason and without.
func TestOwn(t *testing.T) {
	for code, reason := range map[int]string{200: "OK", 400: "Bad Request", 413: "Content Too Large", 431: "Request Header Fields Too Large", 502: "Bad Gateway", 503: "Service Unavailable", 504: "Gateway Timeout", 404: "", 204: "", 599: "", 600: "", 1: "", 0: "", math.MaxInt: ""} {
		body := strconv.Itoa(code) + " " + reason + "\n"
		want := a(code, reason, framing.Length, body, "Content-Type", "text/plain", "Content-Length", strconv.Itoa(len(body)))
		if got := response.Own(code); shown(got) != shown(want) {
			t.Errorf("%d: %+v", code, got)
		}
	}
	// Layer 5 writes a negative number as 0.
	for _, code := range []int{-1, math.MinInt} {
		if got := response.Own(code); shown(got) != shown(a(code, "", framing.Length, "0 \n", "Content-Type", "text/plain", "Content-Length", "3")) {
			t.Errorf("%d: %+v", code, got)
		}
	}
	if m := response.Own(503); len(m.Body) != 24 || m.Line() != "HTTP/1.1 503 Service Unavailable\r\n" {
		t.Errorf("%+v", m)
	}
}

// P11.1: a response of this proxy is parsed from its Text.
func TestOwnIsParsed(t *testing.T) {
	l := request.Limits{Line: 60, Head: 60, Count: 2, Body: 60}
	for code := 200; code < 600; code++ {
		if code == 204 || code == 304 {
			continue
		}
		m := response.Own(code)
		parses(t, l, "GET", seen{rest: "x", begun: true, done: true, persists: true, message: shown(m)}, m.Text()+"x")
	}
}

// Rule 5: the fields of each Message are new memory, and so are those of Own.
func TestMessagesAreNew(t *testing.T) {
	const text = "HTTP/1.1 200 OK\r\nA: b\r\nX: c\r\nContent-Length: 1\r\n\r\na"
	p := response.New(usual, "GET")
	p.Feed(text)
	want := shown(p.Message())
	m := p.Message()
	_ = append(m.Fields[:1], fields.Field{Name: "Connection", Value: "close"})
	m.Fields[0] = fields.Field{Name: "Connection", Value: "close"}
	if shown(p.Message()) != want || !p.Persists() {
		t.Errorf("%+v", p.Message())
	}
	own := response.Own(200)
	before := slices.Clone(own.Fields)
	own.Fields[0].Value = "changed"
	if !slices.Equal(response.Own(200).Fields, before) {
		t.Errorf("%+v", response.Own(200))
	}
}

// Rule 1: the zero value is a parser whose limits are 0.
func TestZero(t *testing.T) {
	var p, q, r response.Parser
	if got := told(&p, "H"); got != (seen{e: api.ErrLong, begun: true, message: none}) {
		t.Errorf("%+v", got)
	}
	if got := told(&q, "\r", "\nH"); got != (seen{e: api.ErrForm, begun: true, message: none}) {
		t.Errorf("%+v", got)
	}
	if got := ended(&r); got != (seen{e: api.ErrEnd, message: none}) {
		t.Errorf("%+v", got)
	}
}
