package inbox_test

import (
	"math"
	"slices"
	"strconv"
	"strings"
	"testing"

	"steward/api"
	"steward/fields"
	"steward/inbox"
	"steward/request"
	"steward/response"
	"steward/start"
)

// get returns the text of a request for the target, with the field lines.
func get(target string, lines ...string) string {
	return "GET " + target + " HTTP/1.1\r\nHost: x\r\n" + strings.Join(lines, "\r\n") + strings.Repeat("\r\n", min(len(lines), 1)) + "\r\n"
}

// many returns the texts of n requests, for the targets /1, /2 and so on.
func many(n int) string {
	text := ""
	for i := range n {
		text += get("/" + strconv.Itoa(i+1))
	}
	return text
}

// reply200 returns an answer with the body, and its text.
func reply200(body string) (response.Message, string) {
	m := response.Message{Status: start.Status{Code: 200, Reason: "OK"}, Fields: fields.Fields{{Name: "A", Value: "b"}}, Body: body}
	return m, "HTTP/1.1 200 OK\r\nA: b\r\n\r\n" + body
}

// feeds checks how many requests are new.
func feeds(t *testing.T, x *inbox.Inbox, s string, want int) {
	t.Helper()
	if got := x.Feed(s); got != want {
		t.Errorf("Feed(%q) is %d, want %d", s, got, want)
	}
}

// starts checks that Next starts a request for the target, or none for number 0.
func starts(t *testing.T, x *inbox.Inbox, number int, target string) {
	t.Helper()
	if s, is := x.Next(); s.Number != number || s.Message.Target != target || is != (number > 0) {
		t.Errorf("Next is %+v %t, want %d %q", s, is, number, target)
	}
}

// answers checks what Answer returns for an answer with the body.
func answers(t *testing.T, x *inbox.Inbox, n int, body string, want bool) {
	t.Helper()
	m, _ := reply200(body)
	if got := x.Answer(n, m); got != want {
		t.Errorf("Answer(%d) is %t", n, got)
	}
}

// flushes checks what Flush returns.
func flushes(t *testing.T, x *inbox.Inbox, want string, last bool) {
	t.Helper()
	if got, is := x.Flush(); got != want || is != last {
		t.Errorf("Flush is %q %t, want %q %t", got, is, want, last)
	}
}

// replies is the text of answers with the bodies.
func replies(bodies ...string) string {
	all := ""
	for _, body := range bodies {
		_, text := reply200(body)
		all += text
	}
	return all
}

// counts checks Left, Busy and Waits.
func counts(t *testing.T, x *inbox.Inbox, left, busy int, waits bool) {
	t.Helper()
	if x.Left() != left || x.Busy() != busy || x.Waits() != waits {
		t.Errorf("%d left, %d busy, waits %t; want %d, %d, %t", x.Left(), x.Busy(), x.Waits(), left, busy, waits)
	}
}

// P27.1, P27.2: the document's example.
func TestExample(t *testing.T) {
	x := inbox.New(usual, 2)
	feeds(t, x, many(2), 2)
	starts(t, x, 1, "/1")
	starts(t, x, 2, "/2")
	answers(t, x, 2, "two", true)
	flushes(t, x, "", false)
	counts(t, x, 2, 1, false)
	answers(t, x, 1, "one", true)
	flushes(t, x, replies("one", "two"), false)
	counts(t, x, 0, 0, false)
	flushes(t, x, "", false)
}

// told is what an inbox tells of its requests when it has received bytes.
type told struct {
	targets string // of those that are started, each followed by a space
	answer  string // that is sent when all that is started is answered
	last    int
	waits   bool
}

// tells starts and answers all requests and returns what the inbox tells.
func tells(t *testing.T, x *inbox.Inbox, received int) told {
	t.Helper()
	y := told{waits: x.Waits()}
	if x.Left() != received {
		t.Errorf("%d left of %d", x.Left(), received)
	}
	for n := 1; n <= received+1; n++ {
		if x.Closes(n) {
			y.last = n
		}
	}
	for s, is := x.Next(); is; s, is = x.Next() {
		y.targets += s.Message.Target + " "
		answers(t, x, s.Number, "", true)
	}
	text, last := x.Flush()
	y.answer = strings.ReplaceAll(text, replies(""), "ok ")
	if last != (y.last > 0) || x.Left() != 0 {
		t.Errorf("last %d is sent: %t, with %d left", y.last, last, x.Left())
	}
	return y
}

// divided checks what an inbox tells of bytes that arrive undivided, in two parts, and one by one.
func divided(t *testing.T, s string, want told) {
	t.Helper()
	received := strings.Count(want.targets, " ")
	if strings.Contains(want.answer, "close") {
		received++
	}
	for i := range len(s) + 1 {
		x := inbox.New(usual, 64)
		n := x.Feed(s[:i])
		n += x.Feed(s[i:])
		if got := tells(t, x, received); n != received || got != want {
			t.Errorf("%q and %q: %d new, %+v; want %+v", s[:i], s[i:], n, got, want)
		}
	}
	x, n := inbox.New(usual, 64), 0
	for i := range len(s) {
		n += x.Feed(s[i : i+1])
	}
	if got := tells(t, x, received); n != received || got != want {
		t.Errorf("%q byte by byte: %d new, %+v; want %+v", s, n, got, want)
	}
}

// P27.1: requests, complete and incomplete, however the bytes are divided.
func TestFeed(t *testing.T) {
	for s, want := range map[string]told{
		"":                           {},
		"G":                          {waits: true},
		"\r":                         {waits: true},
		get("/a"):                    {targets: "/a ", answer: "ok "},
		get("/a") + "G":              {targets: "/a ", answer: "ok ", waits: true},
		get("/a") + get("/b"):        {targets: "/a /b ", answer: "ok ok "},
		get("/a") + pieces[4]:        {targets: "/a /f ", answer: "ok ok "},
		pieces[3] + get("/b"):        {targets: "/e /b ", answer: "ok ok "},
		pieces[3][:len(pieces[3])-1]: {waits: true},
		many(5) + get("/6")[:9]:      {targets: "/1 /2 /3 /4 /5 ", answer: "ok ok ok ok ok ", waits: true},
	} {
		divided(t, s, want)
	}
}

// P27.1: a request whose Connection contains close is the last one, and what follows it is ignored, whatever it is.
func TestClose(t *testing.T) {
	for _, line := range []string{"Connection: close", "connection: CLOSE", "CONNECTION:  a, Close ,b", "Connection: keep-alive\r\nConnection: close"} {
		for _, after := range []string{"", "G", "\r\n", "\n", "x\r\n", get("/c"), get("/c", "Connection: close"), pieces[3], ends[5], ends[8]} {
			divided(t, get("/a")+get("/b", line)+after, told{targets: "/a /b ", answer: "ok ok ", last: 2})
			divided(t, get("/b", line)+after, told{targets: "/b ", answer: "ok ", last: 1})
		}
	}
	for _, line := range []string{"Connection: closed", "Connection: keep-alive", "Connection: close x", "A: close", "Connection:", "Connection: \"close\"", "Proxy-Connection: close"} {
		divided(t, get("/a", line)+get("/b"), told{targets: "/a /b ", answer: "ok ok "})
	}
}

// P27.1: an error is one more request, the last one, which is already answered; what follows it is ignored.
func TestErrors(t *testing.T) {
	for s, e := range map[string]api.Errno{
		"\n": api.ErrForm, "\r\r": api.ErrForm, "\r\n": api.ErrForm, "GET / HTTP/1.0\r\n": api.ErrForm, "GET a HTTP/1.1\r\n": api.ErrForm,
		"GET / HTTP/1.1\r\n\r\n": api.ErrForm, "GET / HTTP/1.1\r\nHost:\r\n\r\n": api.ErrForm, "GET / HTTP/1.1\r\nHost: x\r\nHost: x\r\n\r\n": api.ErrForm, "GET / HTTP/1.1\r\n a: b\r\n": api.ErrForm,
		get("/", "Content-Length: 1", "Transfer-Encoding: chunked"): api.ErrForm, get("/", "Content-Length: 1", "Content-Length: 2"): api.ErrForm, get("/", "Content-Length: -1"): api.ErrForm,
		get("/", "Transfer-Encoding: chunked") + "x": api.ErrForm, get("/", "Transfer-Encoding: gzip"): api.ErrForm,
		get("/", "Content-Length: 10"): api.ErrBig, get("/", "Content-Length: 9999999999"): api.ErrBig, get("/", "Transfer-Encoding: chunked") + "a\r\n": api.ErrBig, get("/", "Transfer-Encoding: chunked") + "9\r\n123456789\r\n1\r\n": api.ErrBig,
		strings.Repeat("x", 51): api.ErrLong, "GET / HTTP/1.1\r\n" + strings.Repeat("x", 101): api.ErrLong, "GET / HTTP/1.1\r\n" + strings.Repeat("a:\r\n", 6): api.ErrLong,
		get("/", "Connection: close", "Content-Length: 10"): api.ErrBig, // close, but not a request
	} {
		for _, after := range []string{"", "x", "\r\n\r\n", get("/c"), get("/c", "Connection: close"), ends[8]} {
			divided(t, s+after, told{answer: own[e], last: 1})
			divided(t, get("/a")+get("/b")+s+after, told{targets: "/a /b ", answer: "ok ok " + own[e], last: 3})
		}
	}
}

// P27.1: the answer to an error is complete, and P27.2: it is sent only after those to all requests before it.
func TestErrorWaitsForItsTurn(t *testing.T) {
	x := inbox.New(usual, 1)
	feeds(t, x, many(2)+"\r\n", 3)
	counts(t, x, 3, 0, false)
	flushes(t, x, "", false)
	starts(t, x, 1, "/1")
	answers(t, x, 1, "one", true)
	flushes(t, x, replies("one"), false)
	counts(t, x, 2, 0, false)
	starts(t, x, 2, "/2")
	answers(t, x, 3, "three", false)
	counts(t, x, 2, 1, false)
	flushes(t, x, "", false)
	answers(t, x, 2, "two", true)
	starts(t, x, 0, "")
	counts(t, x, 2, 0, false)
	flushes(t, x, replies("two")+own[api.ErrForm], true)
	counts(t, x, 0, 0, false)
	answers(t, x, 3, "three", false)
	flushes(t, x, "", true)
}

// P27.1, P27.3: a client whose first bytes are wrong gets one answer, and nothing is ever started.
func TestErrorAlone(t *testing.T) {
	for e, s := range map[api.Errno]string{api.ErrForm: "x\r\n", api.ErrBig: ends[5], api.ErrLong: ends[8]} {
		x := inbox.New(usual, 64)
		feeds(t, x, s, 1)
		starts(t, x, 0, "")
		counts(t, x, 1, 0, false)
		feeds(t, x, get("/a"), 0)
		starts(t, x, 0, "")
		flushes(t, x, own[e], true)
		feeds(t, x, get("/a"), 0)
		starts(t, x, 0, "")
		flushes(t, x, "", true)
		counts(t, x, 0, 0, false)
	}
}

// P27.1: which request is the last one, before it is started and after it is sent.
func TestCloses(t *testing.T) {
	x := inbox.New(usual, 1)
	closes := func(last int) {
		t.Helper()
		for _, n := range []int{math.MinInt, -2, -1, 0, 1, 2, 3, 4, math.MaxInt} {
			if x.Closes(n) != (last > 0 && n == last) {
				t.Errorf("Closes(%d) is %t", n, x.Closes(n))
			}
		}
	}
	closes(0)
	feeds(t, x, get("/1"), 1)
	closes(0)
	feeds(t, x, get("/2", "Connection: close")+get("/3", "Connection: close"), 1)
	closes(2)
	for n, target := range []string{"/1", "/2"} {
		starts(t, x, n+1, target)
		closes(2)
		answers(t, x, n+1, "", true)
		closes(2)
	}
	flushes(t, x, replies("", ""), true)
	closes(2)
}

// P27.1, P27.3: the limits of how many may be in progress.
func TestMost(t *testing.T) {
	for _, c := range []struct{ most, want int }{
		{math.MinInt, 1}, {-1, 1}, {0, 1}, {1, 1}, {2, 2}, {63, 63}, {64, 64}, {65, 64}, {math.MaxInt, 64},
	} {
		x := inbox.New(usual, c.most)
		feeds(t, x, many(70), 70)
		for n := 1; n <= c.want; n++ {
			starts(t, x, n, "/"+strconv.Itoa(n))
		}
		starts(t, x, 0, "")
		counts(t, x, 70, c.want, false)
		answers(t, x, c.want, "", true)
		starts(t, x, c.want+1, "/"+strconv.Itoa(c.want+1))
		starts(t, x, 0, "")
		counts(t, x, 70, c.want, false)
	}
}

// P27.1: requests that are answered count no more, whether their answers are sent or not.
func TestBusy(t *testing.T) {
	x := inbox.New(usual, 2)
	feeds(t, x, many(5), 5)
	starts(t, x, 1, "/1")
	starts(t, x, 2, "/2")
	answers(t, x, 2, "2", true)
	starts(t, x, 3, "/3")
	starts(t, x, 0, "")
	answers(t, x, 3, "3", true)
	starts(t, x, 4, "/4")
	starts(t, x, 0, "")
	counts(t, x, 5, 2, false)
	flushes(t, x, "", false)
	starts(t, x, 0, "")
	answers(t, x, 1, "1", true)
	flushes(t, x, replies("1", "2", "3"), false)
	counts(t, x, 2, 1, false)
	starts(t, x, 5, "/5")
	starts(t, x, 0, "")
}

// P27.3: after the last request nothing is started, although more may be in progress.
func TestNothingAfterTheLast(t *testing.T) {
	x := inbox.New(usual, 64)
	feeds(t, x, get("/1")+get("/2", "Connection: close")+get("/3"), 2)
	starts(t, x, 1, "/1")
	starts(t, x, 2, "/2")
	for range 3 {
		starts(t, x, 0, "")
		feeds(t, x, get("/4"), 0)
		feeds(t, x, "\n", 0)
		counts(t, x, 2, 2, false)
	}
	answers(t, x, 2, "2", true)
	flushes(t, x, "", false)
	answers(t, x, 1, "1", true)
	flushes(t, x, replies("1", "2"), true)
	feeds(t, x, get("/4"), 0)
	starts(t, x, 0, "")
	counts(t, x, 0, 0, false)
	flushes(t, x, "", true)
}

// P27.1: only a request in progress is answered.
func TestAnswer(t *testing.T) {
	x := inbox.New(usual, 2)
	for _, n := range []int{math.MinInt, -1, 0, 1, math.MaxInt} {
		answers(t, x, n, "", false)
	}
	feeds(t, x, many(4), 4)
	answers(t, x, 1, "", false)
	starts(t, x, 1, "/1")
	starts(t, x, 2, "/2")
	for _, n := range []int{math.MinInt, -1, 0, 3, 4, 5, math.MaxInt} {
		answers(t, x, n, "", false)
	}
	counts(t, x, 4, 2, false)
	answers(t, x, 1, "first", true)
	answers(t, x, 1, "second", false)
	counts(t, x, 4, 1, false)
	flushes(t, x, replies("first"), false)
	for _, n := range []int{math.MinInt, -1, 0, 1, 3, 4, 5, math.MaxInt} {
		answers(t, x, n, "", false)
	}
	answers(t, x, 2, "2", true)
	flushes(t, x, replies("2"), false)
	answers(t, x, 2, "", false)
	counts(t, x, 2, 0, false)
}

// permutations returns all orders of 1 to n.
func permutations(n int) [][]int {
	if n == 0 {
		return [][]int{nil}
	}
	var all [][]int
	for _, p := range permutations(n - 1) {
		for i := range n {
			all = append(all, slices.Insert(slices.Clone(p), i, n))
		}
	}
	return all
}

// P27.2: whatever the order of the answers, each is sent once, as soon as all before it are answered.
func TestOrder(t *testing.T) {
	bodies := []string{"1", "2", "3", "4", "5"}
	for _, order := range permutations(5) {
		x := inbox.New(usual, 5)
		feeds(t, x, many(4)+get("/5", "Connection: close"), 5)
		for n, body := range bodies {
			starts(t, x, n+1, "/"+body)
		}
		var given [6]bool
		sent := 0
		for i, n := range order {
			answers(t, x, n, bodies[n-1], true)
			given[n] = true
			before := sent
			for sent < 5 && given[sent+1] {
				sent++
			}
			flushes(t, x, replies(bodies[before:sent]...), sent == 5)
			flushes(t, x, "", sent == 5)
			counts(t, x, 5-sent, 4-i, false)
		}
	}
}

// P27.1: many requests on one connection are numbered on, whatever has been sent.
func TestNumbers(t *testing.T) {
	x := inbox.New(usual, 3)
	number := 0
	for range 200 {
		feeds(t, x, many(3), 3)
		for i := range 3 {
			starts(t, x, number+1+i, "/"+strconv.Itoa(i+1))
		}
		for i := range 3 {
			answers(t, x, number+3-i, strconv.Itoa(3-i), true)
		}
		flushes(t, x, replies("1", "2", "3"), false)
		number += 3
	}
}

// P27.1: a started request is as it was received, its body without chunks.
func TestMessage(t *testing.T) {
	x := inbox.New(usual, 9)
	feeds(t, x, "POST /a?b HTTP/1.1\r\nhost: x\r\nX:\r\nTransfer-Encoding: Chunked\r\n\r\n2\r\nab\r\n1\r\nc\r\n0\r\n\r\n"+get("/d"), 2)
	s, _ := x.Next()
	m := s.Message
	if m.Text() != "POST /a?b HTTP/1.1\r\nhost: x\r\nX: \r\nTransfer-Encoding: Chunked\r\n\r\nabc" || m.Kind != 2 || s.Number != 1 {
		t.Errorf("%+v", s)
	}
	s, _ = x.Next()
	if s.Message.Text() != get("/d") || s.Message.Kind != 0 || s.Number != 2 {
		t.Errorf("%+v", s)
	}
}

// P27.1: bytes of an incomplete request.
func TestWaits(t *testing.T) {
	x := inbox.New(usual, 1)
	counts(t, x, 0, 0, false)
	feeds(t, x, "", 0)
	counts(t, x, 0, 0, false)
	for _, s := range strings.Split(pieces[3], "")[:len(pieces[3])-1] {
		feeds(t, x, s, 0)
		counts(t, x, 0, 0, true)
	}
	feeds(t, x, "", 0)
	counts(t, x, 0, 0, true)
	feeds(t, x, pieces[3][len(pieces[3])-1:], 1)
	counts(t, x, 1, 0, false)
	feeds(t, x, "G", 0)
	counts(t, x, 1, 0, true)
	starts(t, x, 1, "/e")
	counts(t, x, 1, 1, true)
	answers(t, x, 1, "", true)
	flushes(t, x, replies(""), false)
	counts(t, x, 0, 0, true)
	feeds(t, x, get("/", "Connection: close")[1:], 1)
	counts(t, x, 1, 0, false)
	feeds(t, x, "G", 0)
	counts(t, x, 1, 0, false)
}

// P27.1: a zero Inbox accepts all calls, and no byte.
func TestZero(t *testing.T) {
	for _, s := range []string{"G", get("/"), "\r\n\r\n"} {
		x, y := &inbox.Inbox{}, inbox.New(request.Limits{}, 0)
		for _, z := range []*inbox.Inbox{x, y} {
			starts(t, z, 0, "")
			answers(t, z, 0, "", false)
			answers(t, z, 1, "", false)
			flushes(t, z, "", false)
			counts(t, z, 0, 0, false)
			feeds(t, z, "", 0)
			feeds(t, z, s, 1)
			feeds(t, z, s, 0)
			starts(t, z, 0, "")
			counts(t, z, 1, 0, false)
		}
		want := own[api.ErrLong]
		if s[0] == '\r' {
			want = own[api.ErrForm]
		}
		flushes(t, x, want, true)
		flushes(t, y, want, true)
	}
}

// P27.1: negative limits, of which the body's matters only if there is one.
func TestLimits(t *testing.T) {
	x := inbox.New(request.Limits{Line: 14, Head: 9, Count: 1, Body: math.MinInt}, 1)
	feeds(t, x, "GET / HTTP/1.1\r\nHost: x\r\n\r\n", 1)
	feeds(t, x, "PUT / HTTP/1.1\r\nHost:xy\r\n\r\n", 1)
	feeds(t, x, "POST / HTTP/1.1\r\n", 1)
	if !x.Closes(3) {
		t.Error("the third one is too long")
	}
	y := inbox.New(request.Limits{Line: math.MinInt, Head: -1, Count: -1, Body: -1}, 1)
	feeds(t, y, "G", 1)
	flushes(t, y, own[api.ErrLong], true)
	z := inbox.New(request.Limits{Line: 99, Head: 99, Count: 9, Body: -1}, 1)
	feeds(t, z, get("/", "Content-Length: 0"), 1)
	flushes(t, z, own[api.ErrBig], true)
}

// Rule 5: what is passed is not kept, and what is returned is new memory.
func TestMemory(t *testing.T) {
	x := inbox.New(usual, 9)
	feeds(t, x, many(2), 2)
	a, _ := x.Next()
	clear(a.Message.Fields[:cap(a.Message.Fields)])
	b, _ := x.Next()
	if b.Message.Text() != get("/2") {
		t.Errorf("%q", b.Message.Text())
	}
	m, text := reply200("body")
	m.Fields = append(make(fields.Fields, 0, 9), m.Fields...)
	spare := m.Fields[1:2]
	spare[0] = fields.Field{Name: "spare", Value: "spare"}
	x.Answer(1, m)
	if spare[0].Name != "spare" || m.Text() != text {
		t.Error("Answer changed its argument")
	}
	m.Fields[0].Value = "changed"
	flushes(t, x, text, false)
}
