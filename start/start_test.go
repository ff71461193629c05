package start_test

import (
	"math"
	"regexp"
	"slices"
	"strings"
	"testing"

	"steward/api"
	"steward/octet"
	"steward/start"
)

var (
	requestForm = regexp.MustCompile("\\A([A-Za-z0-9!#$%&'*+.^_`|~-]{1,64}) (/[!-~]*) HTTP/1\\.1\\z")
	statusForm  = regexp.MustCompile(`\AHTTP/1\.1 ([2-5])([0-9])([0-9])(?: (|[!-~]|[!-~][\t -~]*[!-~]))?\z`)
)

// parsesRequest checks that the line is parsed as the form says, and that the line of its result is parsed as the same.
func parsesRequest(t *testing.T, line string) {
	t.Helper()
	got, e := start.ParseRequest(line)
	parts := requestForm.FindStringSubmatch(line)
	if parts == nil {
		if got != (start.Request{}) || e != api.ErrForm {
			t.Errorf("%q: %q, error %d, want ErrForm", line, got, e)
		}
		return
	}
	if got != (start.Request{Method: parts[1], Target: parts[2]}) || e != api.OK {
		t.Errorf("%q: %q, error %d", line, got, e)
	}
	if got.Line() != line+"\r\n" {
		t.Errorf("%q is written as %q", line, got.Line())
	}
	if again, e := start.ParseRequest(strings.TrimSuffix(got.Line(), "\r\n")); again != got || e != api.OK {
		t.Errorf("%q: %q, then %q, error %d", line, got, again, e)
	}
}

// parsesStatus does the same for the line of a response.
func parsesStatus(t *testing.T, line string) {
	t.Helper()
	got, e := start.ParseStatus(line)
	parts := statusForm.FindStringSubmatch(line)
	if parts == nil {
		if got != (start.Status{}) || e != api.ErrForm {
			t.Errorf("%q: %v, error %d, want ErrForm", line, got, e)
		}
		return
	}
	code := 0
	for _, digit := range parts[1:4] {
		code = 10*code + int(digit[0]-'0')
	}
	if got != (start.Status{Code: code, Reason: parts[4]}) || e != api.OK {
		t.Errorf("%q: %v, error %d", line, got, e)
	}
	if want := line + strings.Repeat(" ", max(0, len("HTTP/1.1 200 ")-len(line))) + "\r\n"; got.Line() != want {
		t.Errorf("%q is written as %q", line, got.Line())
	}
	if again, e := start.ParseStatus(strings.TrimSuffix(got.Line(), "\r\n")); again != got || e != api.OK {
		t.Errorf("%q: %v, then %v, error %d", line, got, again, e)
	}
}

// edited calls f with each line that one edit at one place makes of the line: a removed, an inserted or a replaced byte.
func edited(line, bytes string, f func(line string)) {
	for i := range len(line) + 1 {
		before, after := line[:i], line[i:]
		for _, c := range []byte(bytes) {
			f(before + string([]byte{c}) + after)
			if after != "" {
				f(before + string([]byte{c}) + after[1:])
			}
		}
		if after != "" {
			f(before + after[1:])
		}
	}
}

// all returns a string of all bytes.
func all() string {
	var l []byte
	for i := range 256 {
		l = append(l, byte(i))
	}
	return string(l)
}

// P7.1, P7.2: request lines, of each kind of method and target.
func TestParseRequest(t *testing.T) {
	for line, want := range map[string]start.Request{
		"GET / HTTP/1.1":                                  {Method: "GET", Target: "/"},
		"GET /a?b HTTP/1.1":                               {Method: "GET", Target: "/a?b"},
		"get //a/../%00?#\"<>\\^`{|}~ HTTP/1.1":           {Method: "get", Target: "//a/../%00?#\"<>\\^`{|}~"},
		"!#$%&'*+-.^_`|~09azAZ /?? HTTP/1.1":              {Method: "!#$%&'*+-.^_`|~09azAZ", Target: "/??"},
		"HTTP / HTTP/1.1":                                 {Method: "HTTP", Target: "/"},
		"GET /HTTP/1.1 HTTP/1.1":                          {Method: "GET", Target: "/HTTP/1.1"},
		strings.Repeat("m", 64) + " / HTTP/1.1":           {Method: strings.Repeat("m", 64), Target: "/"},
		"GET /" + strings.Repeat("a", 9000) + " HTTP/1.1": {Method: "GET", Target: "/" + strings.Repeat("a", 9000)},
	} {
		if got, e := start.ParseRequest(line); got != want || e != api.OK {
			t.Errorf("%q: %q, error %d", line, got, e)
		}
		parsesRequest(t, line)
	}
}

// P7.1: lines that are no request lines, though some servers take them.
func TestParseRequestOfOtherLines(t *testing.T) {
	for _, line := range []string{
		"", " ", "  ", "GET", "GET ", "GET /", "GET / ", "GET HTTP/1.1", "GET  HTTP/1.1", "/ HTTP/1.1", " / HTTP/1.1", " HTTP/1.1", "HTTP/1.1", "  HTTP/1.1",
		" GET / HTTP/1.1", "GET  / HTTP/1.1", "GET /  HTTP/1.1", "GET / HTTP/1.1 ", "GET\t/ HTTP/1.1", "GET /\tHTTP/1.1", "GET /HTTP/1.1", "GET/ HTTP/1.1",
		"GET / HTTP/1.0", "GET / HTTP/1.2", "GET / HTTP/2", "GET / HTTP/2.0", "GET / HTTP/0.9", "GET / http/1.1", "GET / Http/1.1", "GET / HTTP/1.10", "GET / HTTP/01.1", "GET / HTTP/1,1", "GET / HTTPS/1.1", "GET / 1.1", "GET / XHTTP/1.1",
		"GET / HTTP/1.1 HTTP/1.1", "GET /a b HTTP/1.1", "GET a HTTP/1.1", "GET * HTTP/1.1", "OPTIONS * HTTP/1.1", "GET http://a/ HTTP/1.1", "CONNECT a:1 HTTP/1.1", "GET ?a HTTP/1.1",
		"G:T / HTTP/1.1", "(GET) / HTTP/1.1", "G\x00T / HTTP/1.1", "GÉT / HTTP/1.1", "GET /é HTTP/1.1", "GET /\xff HTTP/1.1", "GET /\x7f HTTP/1.1", "GET /\x00 HTTP/1.1",
		"GET / HTTP/1.1\r\n", "GET / HTTP/1.1\n", "GET / HTTP/1.1\r", "\r\nGET / HTTP/1.1", "GET /\r\n HTTP/1.1", "GET / HTTP/1.1\x00", "HTTP/1.1 200 OK", "HTTP/1.1 / HTTP/1.1",
		strings.Repeat("m", 65) + " / HTTP/1.1", strings.Repeat("m", 1000) + " / HTTP/1.1",
	} {
		if got, e := start.ParseRequest(line); got != (start.Request{}) || e != api.ErrForm {
			t.Errorf("%q: %q, error %d", line, got, e)
		}
	}
}

// P7.1, P7.2: each byte at each place of a request line.
func TestParseRequestOfEachByte(t *testing.T) {
	bytes := all()
	for _, line := range []string{"GET / HTTP/1.1", "a /b?c HTTP/1.1", strings.Repeat("m", 64) + " / HTTP/1.1"} {
		edited(line, bytes, func(line string) { parsesRequest(t, line) })
	}
}

// P7.1, P7.2: lines with two edits.
func TestParseRequestOfTwoEdits(t *testing.T) {
	edited("GET /a HTTP/1.1", " /?Pa:\r\x80", func(line string) {
		edited(line, " /H1.\t\n", func(line string) { parsesRequest(t, line) })
	})
}

// P7.1, P7.2: status lines, with a reason and without.
func TestParseStatus(t *testing.T) {
	for line, want := range map[string]start.Status{
		"HTTP/1.1 200":                                {Code: 200},
		"HTTP/1.1 200 ":                               {Code: 200},
		"HTTP/1.1 200 OK":                             {Code: 200, Reason: "OK"},
		"HTTP/1.1 404 Not Found":                      {Code: 404, Reason: "Not Found"},
		"HTTP/1.1 599 a \t b":                         {Code: 599, Reason: "a \t b"},
		"HTTP/1.1 204 200":                            {Code: 204, Reason: "200"},
		"HTTP/1.1 500 HTTP/1.1 200":                   {Code: 500, Reason: "HTTP/1.1 200"},
		"HTTP/1.1 309 !":                              {Code: 309, Reason: "!"},
		"HTTP/1.1 431 " + strings.Repeat("a b", 3000): {Code: 431, Reason: strings.Repeat("a b", 3000)},
	} {
		if got, e := start.ParseStatus(line); got != want || e != api.OK {
			t.Errorf("%q: %v, error %d", line, got, e)
		}
		parsesStatus(t, line)
	}
}

// P7.1: lines that are no status lines, though some clients take them.
func TestParseStatusOfOtherLines(t *testing.T) {
	for _, line := range []string{
		"", " ", "HTTP/1.1", "HTTP/1.1 ", "HTTP/1.1  ", "200", "200 OK", " 200 OK", "HTTP/1.1 OK", "HTTP/1.1  OK", "HTTP/1.1 200OK", "HTTP/1.1200", "HTTP/1.1200 OK",
		"HTTP/1.1  200", "HTTP/1.1 200  ", "HTTP/1.1 200  x", "HTTP/1.1 200 x ", "HTTP/1.1 200 \t", "HTTP/1.1 200 \tx", "HTTP/1.1 200 x\t", "HTTP/1.1 200\tOK", "HTTP/1.1\t200 OK", " HTTP/1.1 200",
		"HTTP/1.0 200 OK", "HTTP/1.2 200 OK", "HTTP/2 200", "http/1.1 200 OK", "Http/1.1 200", "HTTP/1.10 200", "HTTP/11.1 200", "ICY 200 OK", "XHTTP/1.1 200",
		"HTTP/1.1 100", "HTTP/1.1 101 x", "HTTP/1.1 199", "HTTP/1.1 600", "HTTP/1.1 999", "HTTP/1.1 000", "HTTP/1.1 20", "HTTP/1.1 2", "HTTP/1.1 2000", "HTTP/1.1 0200", "HTTP/1.1 0000000200", "HTTP/1.1 00000000200",
		"HTTP/1.1 +20", "HTTP/1.1 -200", "HTTP/1.1 +200", "HTTP/1.1 2 0", "HTTP/1.1 2e2", "HTTP/1.1 0xc", "HTTP/1.1 2_0", "HTTP/1.1 20.", "HTTP/1.1 c8", "HTTP/1.1 ２", "HTTP/1.1 \u0662\u0660\u0660",
		"HTTP/1.1 200 é", "HTTP/1.1 200 a\x00b", "HTTP/1.1 200 \x7f", "HTTP/1.1 200 \xff", "HTTP/1.1 200 OK\r\n", "HTTP/1.1 200 OK\n", "HTTP/1.1 200\r\n", "HTTP/1.1 200\r", "HTTP/1.1 200 a\r\nb", "\r\nHTTP/1.1 200",
		"GET / HTTP/1.1",
	} {
		if got, e := start.ParseStatus(line); got != (start.Status{}) || e != api.ErrForm {
			t.Errorf("%q: %v, error %d", line, got, e)
		}
	}
}

// P7.1, P7.2: each code of up to four digits, with a reason and without.
func TestParseStatusOfEachCode(t *testing.T) {
	for n := range 10000 {
		digits := octet.Digits(n)
		for len(digits) <= 4 {
			for _, reason := range []string{"", " ", " x", "x"} {
				parsesStatus(t, "HTTP/1.1 "+digits+reason)
			}
			digits = "0" + digits
		}
	}
}

// P7.1, P7.2: each byte at each place of a status line.
func TestParseStatusOfEachByte(t *testing.T) {
	bytes := all()
	for _, line := range []string{"HTTP/1.1 200", "HTTP/1.1 599 ", "HTTP/1.1 304 a b"} {
		edited(line, bytes, func(line string) { parsesStatus(t, line) })
	}
}

// P7.1, P7.2: lines with two edits.
func TestParseStatusOfTwoEdits(t *testing.T) {
	edited("HTTP/1.1 205 a", " 0269\tH-", func(line string) {
		edited(line, " 15\t\r\xff", func(line string) { parsesStatus(t, line) })
	})
}

// P7.1: Line of any request.
func TestRequestLine(t *testing.T) {
	for r, want := range map[start.Request]string{
		{Method: "HEAD", Target: "/a?b"}:      "HEAD /a?b HTTP/1.1\r\n",
		{}:                                    "  HTTP/1.1\r\n",
		{Method: "a b\r\n", Target: "\xff é"}: "a b\r\n \xff é HTTP/1.1\r\n",
	} {
		if got := r.Line(); got != want {
			t.Errorf("%q: %q", r, got)
		}
	}
}

// P7.1: Line of any status: there is always a second space, and the code is limited.
func TestStatusLine(t *testing.T) {
	for s, want := range map[start.Status]string{
		{Code: 503, Reason: "Service Unavailable"}: "HTTP/1.1 503 Service Unavailable\r\n",
		{Code: 204}:                        "HTTP/1.1 204 \r\n",
		{}:                                 "HTTP/1.1 200 \r\n",
		{Code: 300, Reason: " a\r\n\xff "}: "HTTP/1.1 300  a\r\n\xff \r\n",
		{Code: 199, Reason: "x"}:           "HTTP/1.1 200 x\r\n",
		{Code: 200, Reason: "x"}:           "HTTP/1.1 200 x\r\n",
		{Code: 201, Reason: "x"}:           "HTTP/1.1 201 x\r\n",
		{Code: 598, Reason: "x"}:           "HTTP/1.1 598 x\r\n",
		{Code: 599, Reason: "x"}:           "HTTP/1.1 599 x\r\n",
		{Code: 600, Reason: "x"}:           "HTTP/1.1 599 x\r\n",
		{Code: -300, Reason: "x"}:          "HTTP/1.1 200 x\r\n",
		{Code: math.MinInt}:                "HTTP/1.1 200 \r\n",
		{Code: math.MaxInt}:                "HTTP/1.1 599 \r\n",
	} {
		if got := s.Line(); got != want {
			t.Errorf("%v: %q", s, got)
		}
	}
}

// P7.1: Check of each combination of right and wrong parts.
func TestCheck(t *testing.T) {
	methods := map[string]bool{"GET": true, "a": true, "~": true, strings.Repeat("m", 64): true, "": false, "G T": false, "GET ": false, "é": false, "G/T": false, strings.Repeat("m", 65): false}
	targets := map[string]bool{"/": true, "/a?b": true, "//~!": true, "": false, "a": false, "*": false, "/a b": false, " /": false, "/\r\n": false, "/é": false, "http://a/": false}
	for method, fits := range methods {
		for target, fitsToo := range targets {
			want := api.ErrForm
			if fits && fitsToo {
				want = api.OK
			}
			if got := (start.Request{Method: method, Target: target}).Check(); got != want {
				t.Errorf("%q, %q: %d", method, target, got)
			}
		}
	}
}

// P7.1: Check of each byte in the method and in the target agrees with the line's form.
func TestCheckOfEachByte(t *testing.T) {
	edited("M", all(), func(method string) {
		edited("/t", all(), func(target string) {
			want := api.ErrForm
			if octet.Token(method) && octet.Target(target) {
				want = api.OK
			}
			if got := (start.Request{Method: method, Target: target}).Check(); got != want {
				t.Fatalf("%q, %q: %d", method, target, got)
			}
		})
	})
}

// P7.1: Idempotent, in exactly these letters, whatever the target is.
func TestIdempotent(t *testing.T) {
	methods := []string{"GET", "HEAD", "PUT", "DELETE", "OPTIONS", "TRACE"}
	for _, method := range methods {
		for _, target := range []string{"", "/", "/a?b"} {
			if !(start.Request{Method: method, Target: target}).Idempotent() {
				t.Errorf("%q is not idempotent", method)
			}
		}
		edited(method, all(), func(other string) {
			if (start.Request{Method: other, Target: "/"}).Idempotent() && !slices.Contains(methods, other) {
				t.Errorf("%q is idempotent", other)
			}
		})
	}
	for _, method := range []string{"", "POST", "PATCH", "CONNECT", "get", "Head", "put", "delete", "options", "trace", "GET HEAD", "GETHEAD"} {
		if (start.Request{Method: method, Target: "/"}).Idempotent() {
			t.Errorf("%q is idempotent", method)
		}
	}
}

// P7.1: Path of any target ends before the first question mark.
func TestPath(t *testing.T) {
	for target, want := range map[string]string{
		"/a?b": "/a", "/a": "/a", "/": "/", "/?": "/", "/a?": "/a", "/a?b?c": "/a", "/a??": "/a", "/a/b?c/d": "/a/b", "/a%3Fb": "/a%3Fb", "/a#b?c": "/a#b", "/a;b&c": "/a;b&c",
		"": "", "?": "", "?a": "", "a b?": "a b", "\xffé?\xff": "\xffé", "/\u037e": "/\u037e",
	} {
		if got := (start.Request{Method: "GET", Target: target}).Path(); got != want {
			t.Errorf("%q: %q", target, got)
		}
		if got := (start.Request{Target: target}).Path(); got != want {
			t.Errorf("%q without a method: %q", target, got)
		}
	}
}

// P7.1: Reason of each code around those that have words, and of extreme ones.
func TestReason(t *testing.T) {
	words := map[int]string{200: "OK", 400: "Bad Request", 413: "Content Too Large", 431: "Request Header Fields Too Large", 502: "Bad Gateway", 503: "Service Unavailable", 504: "Gateway Timeout"}
	for code := -1000; code <= 1000; code++ {
		if got := start.Reason(code); got != words[code] {
			t.Errorf("%d: %q", code, got)
		}
	}
	for _, code := range []int{math.MinInt, math.MaxInt, 200 + 1<<32, 1 << 62} {
		if got := start.Reason(code); got != "" {
			t.Errorf("%d: %q", code, got)
		}
	}
}

// P7.1: Bodied of each method and code: only HEAD, in capital letters, 204 and 304 are without a body.
func TestBodied(t *testing.T) {
	for _, method := range []string{"GET", "HEAD", "POST", "CONNECT", "head", "Head", "HEAD ", "HEA", "HEADS", "", "\xff"} {
		for code := -1000; code <= 1000; code++ {
			want := method != "HEAD" && code != 204 && code != 304
			if got := start.Bodied(method, code); got != want {
				t.Errorf("%q, %d: %v", method, code, got)
			}
		}
		for _, code := range []int{math.MinInt, math.MaxInt, 204 + 1<<32} {
			if got := start.Bodied(method, code); got != (method != "HEAD") {
				t.Errorf("%q, %d: %v", method, code, got)
			}
		}
	}
}
