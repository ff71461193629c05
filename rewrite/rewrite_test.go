package rewrite_test

import (
	"math"
	"slices"
	"strconv"
	"strings"
	"testing"

	"steward/api"
	"steward/chunked"
	"steward/fields"
	"steward/framing"
	"steward/request"
	"steward/response"
	"steward/rewrite"
	"steward/start"
)

// open are limits that nothing here exceeds.
var open = request.Limits{Line: math.MaxInt, Head: math.MaxInt, Count: math.MaxInt, Body: math.MaxInt}

// of returns the fields with the names and values, in turn.
func of(l ...string) fields.Fields {
	var out fields.Fields
	for i := 0; i < len(l); i += 2 {
		out = append(out, fields.Field{Name: l[i], Value: l[i+1]})
	}
	return out
}

// asked returns the request of its parts.
func asked(kind int, body string, l ...string) request.Message {
	return request.Message{Request: start.Request{Method: "POST", Target: "/a?b"}, Fields: of(l...), Body: body, Kind: kind}
}

// answered returns the response of its parts.
func answered(code, kind int, body string, l ...string) response.Message {
	return response.Message{Status: start.Status{Code: code, Reason: "r"}, Fields: of(l...), Body: body, Kind: kind}
}

// sameRequest checks that a request has exactly the parts.
func sameRequest(t *testing.T, got, want request.Message) {
	t.Helper()
	if got.Request != want.Request || got.Kind != want.Kind || got.Body != want.Body || !slices.Equal(got.Fields, want.Fields) {
		t.Errorf("%+v, want %+v", got, want)
	}
}

// sameResponse checks that a response has exactly the parts.
func sameResponse(t *testing.T, got, want response.Message) {
	t.Helper()
	if got.Status != want.Status || got.Kind != want.Kind || got.Body != want.Body || !slices.Equal(got.Fields, want.Fields) {
		t.Errorf("%+v, want %+v", got, want)
	}
}

// hops checks what Hops leaves of the fields.
func hops(t *testing.T, l fields.Fields, want ...string) {
	t.Helper()
	if got := rewrite.Hops(l); !slices.Equal(got, of(want...)) {
		t.Errorf("%q: %q, want %q", l, got, want)
	}
}

// hopNames are the names of the fields that are always hop-by-hop.
var hopNames = []string{"Connection", "Keep-Alive", "Proxy-Connection", "Proxy-Authenticate", "Proxy-Authorization", "TE", "Trailer", "Transfer-Encoding", "Upgrade"}

// P12.1: the hop-by-hop fields, in any case and wherever they are, and no others.
func TestHops(t *testing.T) {
	var all fields.Fields
	for _, name := range hopNames {
		for _, written := range []string{name, strings.ToLower(name), strings.ToUpper(name)} {
			f := fields.Field{Name: written, Value: "v"}
			all = append(all, f, f)
			hops(t, fields.Fields{f})
			hops(t, fields.Fields{{Name: "a", Value: "1"}, f, {Name: "b", Value: "2"}, f, {Name: "A", Value: "1"}}, "a", "1", "b", "2", "A", "1")
			near := []string{written + "s", written[1:], written[:len(written)-1], "x" + written, written + " ", strings.ReplaceAll(written, "e", "\u0435") + "\xff"}
			for _, other := range near {
				hops(t, fields.Fields{{Name: other, Value: "v"}}, other, "v")
			}
		}
	}
	hops(t, all)
	hops(t, nil)
	hops(t, fields.Fields{})
	hops(t, of("", "", "\xff", "x", "Host", "a", "Content-Length", "5", "Via", "x", "Cookie", "c", "Set-Cookie", "d", "X-Forwarded-For", "e", "Proxy", "f", "Keep", "g"),
		"", "", "\xff", "x", "Host", "a", "Content-Length", "5", "Via", "x", "Cookie", "c", "Set-Cookie", "d", "X-Forwarded-For", "e", "Proxy", "f", "Keep", "g")
}

// P12.1: fields that Connection names, in any case and in any of its fields, wherever they are.
func TestHopsOfConnection(t *testing.T) {
	hops(t, of("Connection", "close, X-A", "X-A", "1", "Host", "a"), "Host", "a")
	hops(t, of("x-a", "1", "Host", "a", "X-A", "2", "connection", "X-a", "X-AB", "3"), "Host", "a", "X-AB", "3")
	hops(t, of("a", "1", "Connection", "A", "b", "2", "CONNECTION", ",\tB ,,c", "C", "3", "d", "4", "ab", "5"), "d", "4", "ab", "5")
	hops(t, of("Connection", "close", "Close", "1", "close", "2", "closed", "3"), "closed", "3")
	hops(t, of("Connection", "Via, Cookie, X-Forwarded-For, Set-Cookie", "Via", "1", "cookie", "2", "x-forwarded-for", "3", "SET-COOKIE", "4", "x", "5"), "x", "5")
	hops(t, of("Connection", "a;q=1, \"b\", c d", "a", "1", "b", "2", "c", "3", "d", "4", "c d", "5", "a;Q=1", "6", "\"B\"", "7"), "a", "1", "b", "2", "c", "3", "d", "4")
	hops(t, of("Connection", "", "", "1", " ", "2"), "", "1", " ", "2")
	hops(t, of("Connection", "a\xff, \u212a", "A\xff", "1", "k", "2", "K", "3", "\u212a", "4"), "k", "2", "K", "3")
	hops(t, of("Proxy-Connection", "a", "Connections", "b", "a", "1", "b", "2"), "Connections", "b", "a", "1", "b", "2")
	hops(t, of("Connection", "Connection, TE", "TE", "1", "te", "2"))
}

// P12.1: Host and Content-Length are kept, even if Connection names them; names that only resemble them are not.
func TestHopsKeepsHostAndLength(t *testing.T) {
	for _, value := range []string{"Host, Content-Length, X", "hOST,x,CONTENT-LENGTH", "x, host, host, content-length"} {
		hops(t, of("Host", "a", "Connection", value, "content-length", "5", "X", "1", "HOST", "b", "Content-Length", "5"), "Host", "a", "content-length", "5", "HOST", "b", "Content-Length", "5")
	}
	hops(t, of("Connection", "hosts, content-lengths, Content_Length", "Hosts", "a", "Content-Lengths", "5", "content_length", "5", "host", "a"), "host", "a")
}

// P12.1: the fields of a request that is sent to a backend, and their order.
func TestRequest(t *testing.T) {
	sameRequest(t, rewrite.Request(asked(framing.None, ""), "c1"), asked(framing.None, "", "X-Forwarded-For", "c1", "Via", "1.1 steward"))
	sameRequest(t, rewrite.Request(asked(framing.None, "", "Host", "a", "X", "1"), "c12"), asked(framing.None, "", "Host", "a", "X", "1", "X-Forwarded-For", "c12", "Via", "1.1 steward"))
	sameRequest(t, rewrite.Request(asked(framing.Length, "ab", "Content-Length", "2", "Host", "a"), "c1"), asked(framing.Length, "ab", "Content-Length", "2", "Host", "a", "X-Forwarded-For", "c1", "Via", "1.1 steward"))
	sameRequest(t, rewrite.Request(asked(framing.Chunked, "abc", "Host", "a", "Transfer-Encoding", "chunked", "Cookie", "p=1"), "c1"), asked(framing.Length, "abc", "Host", "a", "Cookie", "p=1", "X-Forwarded-For", "c1", "Via", "1.1 steward", "Content-Length", "3"))
	sameRequest(t, rewrite.Request(asked(framing.Chunked, "", "Transfer-Encoding", "chunked", "Host", "a"), ""), asked(framing.Length, "", "Host", "a", "X-Forwarded-For", "", "Via", "1.1 steward", "Content-Length", "0"))
	if rewrite.Via != "1.1 steward" {
		t.Error(rewrite.Via)
	}
}

// P12.1: X-Forwarded-For is one field at the place of the first one, with all previous values that are left.
func TestForwarded(t *testing.T) {
	sameRequest(t, rewrite.Request(asked(framing.None, "", "x-forwarded-for", "a", "Host", "h", "X-FORWARDED-FOR", "b, c", "y", "1", "X-Forwarded-For", ""), "c7"),
		asked(framing.None, "", "X-Forwarded-For", "a, b, c, , c7", "Host", "h", "y", "1", "Via", "1.1 steward"))
	sameRequest(t, rewrite.Request(asked(framing.None, "", "x-forwarded-for", ""), "c7"), asked(framing.None, "", "X-Forwarded-For", ", c7", "Via", "1.1 steward"))
	sameRequest(t, rewrite.Request(asked(framing.None, "", "x-forwarded-for", "a", "Connection", "X-Forwarded-For", "Host", "h"), "c7"), asked(framing.None, "", "Host", "h", "X-Forwarded-For", "c7", "Via", "1.1 steward"))
	sameRequest(t, rewrite.Request(asked(framing.None, "", "X-Forwarded", "a", "Forwarded", "b"), "\xff,"), asked(framing.None, "", "X-Forwarded", "a", "Forwarded", "b", "X-Forwarded-For", "\xff,", "Via", "1.1 steward"))
}

// P12.1: a Via field is added to those that there are, unless Connection names them.
func TestVia(t *testing.T) {
	sameRequest(t, rewrite.Request(asked(framing.None, "", "Via", "1.0 x", "via", "1.1 steward"), "c"), asked(framing.None, "", "Via", "1.0 x", "via", "1.1 steward", "X-Forwarded-For", "c", "Via", "1.1 steward"))
	sameRequest(t, rewrite.Request(asked(framing.None, "", "Via", "1.0 x", "Connection", "via"), "c"), asked(framing.None, "", "X-Forwarded-For", "c", "Via", "1.1 steward"))
	sameResponse(t, rewrite.Response(answered(204, framing.None, "", "Via", "1.0 x", "via", "1.1 steward"), "GET", rewrite.Extra{}), answered(204, framing.None, "", "Via", "1.0 x", "via", "1.1 steward", "Via", "1.1 steward"))
}

// P12.1: the length of a request is that of its body, in one field at the place of the first one, whatever is said of it.
func TestRequestLength(t *testing.T) {
	for _, kind := range []int{framing.Length, framing.Chunked, framing.Close, 4, -1, math.MaxInt, math.MinInt} {
		for _, body := range []string{"", "a", "0\r\n\r\n", strings.Repeat("\x00", 1000)} {
			n := strconv.Itoa(len(body))
			sameRequest(t, rewrite.Request(asked(kind, body), "c"), asked(framing.Length, body, "X-Forwarded-For", "c", "Via", "1.1 steward", "Content-Length", n))
			for _, said := range []string{"", n, "0" + n, "77", "-1", "x"} {
				m := asked(kind, body, "content-length", said, "Host", "a", "CONTENT-LENGTH", "5", "Connection", "Content-Length", "Transfer-Encoding", "gzip")
				sameRequest(t, rewrite.Request(m, "c"), asked(framing.Length, body, "Content-Length", n, "Host", "a", "X-Forwarded-For", "c", "Via", "1.1 steward"))
			}
		}
	}
	// Without a body nothing is said of it: what the message has stays.
	sameRequest(t, rewrite.Request(asked(framing.None, "x", "content-length", "5"), "c"), asked(framing.None, "x", "content-length", "5", "X-Forwarded-For", "c", "Via", "1.1 steward"))
	sameRequest(t, rewrite.Request(request.Message{}, ""), request.Message{Fields: of("X-Forwarded-For", "", "Via", "1.1 steward")})
}

// P12.1: the fields of a response that is sent to a client, and their order.
func TestResponse(t *testing.T) {
	m := answered(200, framing.Close, "hi", "Keep-Alive", "5", "X", "y", "Connection", "x-b", "X-B", "1")
	for _, c := range []struct {
		x    rewrite.Extra
		more []string
	}{
		{rewrite.Extra{}, nil},
		{rewrite.Extra{Cookie: "p=1; Path=/"}, []string{"Set-Cookie", "p=1; Path=/"}},
		{rewrite.Extra{Close: true}, []string{"Connection", "close"}},
		{rewrite.Extra{Cookie: " ", Close: true}, []string{"Set-Cookie", " ", "Connection", "close"}},
	} {
		bodied := slices.Concat([]string{"X", "y", "Via", "1.1 steward", "Content-Length", "2"}, c.more)
		sameResponse(t, rewrite.Response(m, "GET", c.x), answered(200, framing.Length, "hi", bodied...))
		bare := slices.Concat([]string{"X", "y", "Via", "1.1 steward"}, c.more)
		sameResponse(t, rewrite.Response(m, "HEAD", c.x), answered(200, framing.None, "", bare...))
	}
	sameResponse(t, rewrite.Response(answered(200, framing.None, "", "Set-Cookie", "a", "set-cookie", "b"), "GET", rewrite.Extra{Cookie: "c"}), answered(200, framing.Length, "", "Set-Cookie", "a", "set-cookie", "b", "Via", "1.1 steward", "Content-Length", "0", "Set-Cookie", "c"))
	sameResponse(t, rewrite.Response(response.Message{}, "", rewrite.Extra{}), response.Message{Fields: of("Via", "1.1 steward", "Content-Length", "0"), Kind: framing.Length})
}

// P12.1: the length of a response with a body is that of the body, at the place of the first one, whatever is said of it.
func TestResponseLength(t *testing.T) {
	for _, kind := range []int{framing.None, framing.Length, framing.Chunked, framing.Close, 4, -1} {
		for _, body := range []string{"", "a", "0\r\n\r\n", strings.Repeat("\xff", 1000)} {
			n := strconv.Itoa(len(body))
			for _, said := range []string{"", n, "0" + n, "77", "x"} {
				m := answered(404, kind, body, "content-length", said, "A", "b", "CONTENT-LENGTH", "5", "Connection", "content-length", "Transfer-Encoding", "chunked")
				sameResponse(t, rewrite.Response(m, "PUT", rewrite.Extra{}), answered(404, framing.Length, body, "Content-Length", n, "A", "b", "Via", "1.1 steward"))
			}
		}
	}
}

// P12.1: responses without a body, for which the length is left as it is.
func TestResponseWithoutBody(t *testing.T) {
	for _, method := range []string{"GET", "HEAD", "head", ""} {
		for code := -1; code < 600; code++ {
			got := rewrite.Response(answered(code, framing.Length, "xyz", "Content-Length", "0300"), method, rewrite.Extra{})
			want := answered(code, framing.Length, "xyz", "Content-Length", "3", "Via", "1.1 steward")
			if method == "HEAD" || code == 204 || code == 304 {
				want = answered(code, framing.None, "", "Content-Length", "0300", "Via", "1.1 steward")
			}
			sameResponse(t, got, want)
		}
	}
}

// P12.1: the proxy's own responses, of which only that to HEAD has no body.
func TestOwn(t *testing.T) {
	for _, code := range []int{200, 204, 304, 400, 404, 413, 431, 502, 503, 504, 0, -1, 600, math.MaxInt} {
		for _, method := range []string{"GET", "HEAD", "head", "HEADS", ""} {
			want := response.Own(code)
			if method == "HEAD" {
				want.Body, want.Kind = "", framing.None
			}
			sameResponse(t, rewrite.Own(code, method, false), want)
			want.Fields = append(want.Fields, fields.Field{Name: "Connection", Value: "close"})
			sameResponse(t, rewrite.Own(code, method, true), want)
		}
	}
	const text = "HTTP/1.1 503 Service Unavailable\r\nContent-Type: text/plain\r\nContent-Length: 24\r\n"
	for want, got := range map[string]response.Message{
		text + "\r\n503 Service Unavailable\n":                      rewrite.Own(503, "GET", false),
		text + "Connection: close\r\n\r\n503 Service Unavailable\n": rewrite.Own(503, "PUT", true),
		text + "\r\n":                      rewrite.Own(503, "HEAD", false),
		text + "Connection: close\r\n\r\n": rewrite.Own(503, "HEAD", true),
	} {
		if got.Text() != want {
			t.Errorf("%q, want %q", got.Text(), want)
		}
	}
}

// oneReading checks that the fields have no transfer coding, and exactly one length, that of the body, if it has one.
func oneReading(t *testing.T, l fields.Fields, kind int, body string) {
	t.Helper()
	var want []string
	if kind == framing.Length {
		want = []string{strconv.Itoa(len(body))}
	}
	if l.Has("Transfer-Encoding") || !slices.Equal(l.All("Content-Length"), want) || kind == framing.None && body != "" {
		t.Errorf("%q, kind %d, %q", l, kind, body)
	}
}

// lists are fields of all kinds, without those that tell how a body ends.
func lists() []fields.Fields {
	l := []fields.Fields{nil}
	pool := of("Connection", "close, x-a", "Connection", "Host, content-length, Keep-Alive,transfer-encoding", "X-A", "1", "TE", "trailers", "Upgrade", "h2c", "X-Forwarded-For", "", "x-forwarded-for", "a, b", "Via", "1.0 x", "Cookie", "a=b; \tc")
	for i := 0; len(l[i]) < 3; i++ {
		for _, f := range pool {
			l = append(l, slices.Concat(l[i], fields.Fields{f}))
		}
	}
	return l
}

// bodies are bodies, some of which look like something else.
func bodies() []string {
	return []string{"", "b", "\r\n\r\n", "0\r\n\r\n", "GET / HTTP/1.1\r\nHost: a\r\n\r\n", "\x00\xff", strings.Repeat("x", 300)}
}

// framed are the texts of the head and the body of a message with the body, in each way it may end, except with the connection.
func framed(body string) []string {
	length := "Content-Length: " + strconv.Itoa(len(body)) + "\r\n"
	chunks := "TRANSFER-ENCODING: Chunked\r\n\r\n" + chunked.Encode(body)
	return []string{length + "\r\n" + body, "content-length: 000" + length[len("Content-Length: "):] + "\r\n" + body, length + length + "\r\n" + body, chunks}
}

// P12.2: whatever request is parsed, a backend parses what is sent as the same message, with nothing left.
func TestRequestsHaveOneReading(t *testing.T) {
	for _, l := range lists() {
		texts := []string{"\r\n"}
		for _, body := range bodies() {
			texts = append(texts, framed(body)...)
		}
		for _, text := range texts {
			in, e := request.New(open).Feed("PATCH /a?b HTTP/1.1\r\nHost: h\r\n" + l.Text() + text)
			if len(in) != 1 || e != api.OK {
				t.Fatalf("%q, %q: %d, error %d", l, text, len(in), e)
			}
			sent := rewrite.Request(in[0], "c3")
			if sent.Request != in[0].Request || sent.Body != in[0].Body || (sent.Kind == framing.None) != (in[0].Kind == framing.None) || !slices.Equal(sent.Fields.All("Host"), []string{"h"}) || sent.Fields.Has("Connection") {
				t.Errorf("%+v is sent as %+v", in[0], sent)
			}
			oneReading(t, sent.Fields, sent.Kind, sent.Body)
			p := request.New(open)
			got, e := p.Feed(sent.Text() + sent.Text())
			if len(got) != 2 || e != api.OK || p.Waits() {
				t.Fatalf("%q: %d, error %d", sent.Text(), len(got), e)
			}
			sameRequest(t, got[0], sent)
			sameRequest(t, got[1], sent)
		}
	}
}

// received checks that a client parses the response to the method as the same message, with nothing left.
func received(t *testing.T, sent response.Message, method string) {
	t.Helper()
	p := response.New(open, method)
	rest, e := p.Feed(sent.Text() + "next")
	if rest != "next" || e != api.OK || !p.Done() {
		t.Errorf("%q: %q, error %d", sent.Text(), rest, e)
	}
	sameResponse(t, p.Message(), sent)
}

// P12.2: whatever response is parsed, a client parses what is sent as the same message, with nothing left.
func TestResponsesHaveOneReading(t *testing.T) {
	for i, l := range lists() {
		x := rewrite.Extra{Cookie: []string{"", "p=1; Path=/; HttpOnly"}[i%2], Close: i%3 == 0}
		for _, body := range bodies() {
			for _, text := range append(framed(body), "\r\n"+body) {
				p := response.New(open, "GET")
				p.Feed("HTTP/1.1 206 a b\r\n" + l.Text() + text)
				if p.End() != api.OK || !p.Done() || p.Message().Body != body {
					t.Fatalf("%q, %q: %+v", l, text, p.Message())
				}
				sent := rewrite.Response(p.Message(), "GET", x)
				if sent.Status != p.Message().Status || sent.Body != body || sent.Fields.Has("Set-Cookie") != (x.Cookie != "") || framing.Persists(sent.Fields) == x.Close {
					t.Errorf("%+v is sent as %+v", p.Message(), sent)
				}
				oneReading(t, sent.Fields, sent.Kind, sent.Body)
				received(t, sent, "GET")
			}
		}
	}
}

// P12.2: responses without a body have one reading, too, and so have the proxy's own.
func TestOtherResponsesHaveOneReading(t *testing.T) {
	for i, l := range lists() {
		x := rewrite.Extra{Cookie: []string{"", "p=1"}[i%2], Close: i%3 == 0}
		for _, method := range []string{"GET", "HEAD"} {
			for _, code := range []string{"204", "304"} {
				p := response.New(open, method)
				p.Feed("HTTP/1.1 " + code + " x\r\n" + l.Text() + "Transfer-Encoding: gzip\r\n\r\n")
				sent := rewrite.Response(p.Message(), method, x)
				if !p.Done() || sent.Status != p.Message().Status {
					t.Errorf("%+v is sent as %+v", p.Message(), sent)
				}
				oneReading(t, sent.Fields, sent.Kind, sent.Body)
				received(t, sent, method)
			}
		}
	}
	for _, code := range []int{200, 400, 413, 431, 502, 503, 504, 404} {
		for _, method := range []string{"GET", "HEAD", "POST"} {
			received(t, rewrite.Own(code, method, code%2 == 0), method)
		}
	}
}

// P12.1, P12.2: lengths of a response without a body stay as they are, and nothing is read from them.
func TestLengthsWithoutBody(t *testing.T) {
	for _, lengths := range []fields.Fields{of("Content-Length", "5"), of("content-length", "5", "Content-Length", "6"), of("Content-Length", "x")} {
		p := response.New(open, "HEAD")
		p.Feed("HTTP/1.1 200 r\r\n" + lengths.Text() + "\r\n")
		sent := rewrite.Response(p.Message(), "HEAD", rewrite.Extra{})
		want := answered(200, framing.None, "")
		want.Fields = lengths.Add("Via", "1.1 steward")
		sameResponse(t, sent, want)
		received(t, sent, "HEAD")
	}
}

// Rule 5: fields are left as they are, and so is their spare capacity; those that are returned are new memory.
func TestArgumentsAreLeft(t *testing.T) {
	l := of("Connection", "X-A, close", "A", "1", "X-A", "2", "X-Forwarded-For", "a", "Via", "x", "Content-Length", "7", "TE", "t", "spare", "1", "spare", "2", "spare", "3", "spare", "4")
	before := slices.Clone(l)
	for n := range len(l) + 1 {
		for _, kind := range []int{framing.None, framing.Length} {
			for _, method := range []string{"GET", "HEAD"} {
				for _, got := range []fields.Fields{
					rewrite.Hops(l[:n]),
					rewrite.Request(request.Message{Fields: l[:n], Kind: kind}, "c").Fields,
					rewrite.Response(response.Message{Fields: l[:n], Kind: kind}, method, rewrite.Extra{Cookie: "c", Close: true}).Fields,
					rewrite.Response(response.Message{Fields: l[:n], Kind: kind}, method, rewrite.Extra{}).Fields,
				} {
					for i := range got {
						got[i].Value = "changed"
					}
					_ = append(got, fields.Field{Name: "changed"})
				}
				if !slices.Equal(l, before) {
					t.Fatalf("%q", l)
				}
			}
		}
	}
	own := rewrite.Own(503, "GET", true)
	own.Fields[0].Value = "changed"
	if rewrite.Own(503, "GET", true).Fields[0].Value != "text/plain" {
		t.Error("changed")
	}
}
