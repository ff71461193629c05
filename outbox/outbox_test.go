package outbox_test

import (
	"math"
	"math/rand/v2"
	"reflect"
	"strings"
	"testing"

	"steward/api"
	"steward/fields"
	"steward/outbox"
	"steward/request"
	"steward/response"
	"steward/start"
)

// usual are limits that the responses here fit in, unless they are to be too long.
var usual = request.Limits{Line: 40, Head: 100, Count: 4, Body: 10}

// asked returns a request and its text.
func asked(method, target string) (request.Message, string) {
	m := request.Message{Request: start.Request{Method: method, Target: target}, Fields: fields.Fields{{Name: "Host", Value: "h"}}, Body: "b"}
	return m, method + " " + target + " HTTP/1.1\r\nHost: h\r\n\r\nb"
}

// model is a connection to a backend by the words of the document.
type model struct {
	limits       request.Limits
	state        int
	has          bool
	method, text string
	bytes        string // of the response
}

func (m *model) send(r request.Message) (string, api.Errno) {
	if m.state == 3 || m.has {
		return "", 9
	}
	m.has, m.method, m.text, m.bytes = true, r.Method, r.Text(), ""
	if m.state == 1 {
		m.state = 2
		return m.text, 0
	}
	return "", 0
}

func (m *model) opened() (string, api.Errno) {
	if m.state != 0 {
		return "", 9
	}
	if m.has {
		m.state = 2
		return m.text, 0
	}
	m.state = 1
	return "", 0
}

// die makes it Dead, which is a failure if it has a request.
func (m *model) die() outbox.Result {
	r := outbox.Result{Failed: m.has}
	m.state, m.has = 3, false
	return r
}

// feed parses all bytes of the response again, undivided.
func (m *model) feed(s string) outbox.Result {
	if s == "" || m.state == 3 {
		return outbox.Result{}
	}
	if m.state != 2 {
		return m.die()
	}
	m.bytes += s
	p := response.New(m.limits, m.method)
	rest, e := p.Feed(m.bytes)
	if e != 0 {
		return m.die()
	}
	if !p.Done() {
		return outbox.Result{}
	}
	m.has, m.state = false, 1
	if rest != "" || !p.Persists() {
		m.state = 3
	}
	return outbox.Result{Done: true, Message: p.Message()}
}

func (m *model) closed() outbox.Result {
	if m.state == 2 {
		p := response.New(m.limits, m.method)
		p.Feed(m.bytes)
		if p.End() == 0 {
			m.die()
			return outbox.Result{Done: true, Message: p.Message()}
		}
	}
	return m.die()
}

// same compares all that can be asked.
func same(t *testing.T, o *outbox.Outbox, m *model) {
	t.Helper()
	begun := m.state == 2 && m.bytes != ""
	if o.State() != m.state || o.Has() != m.has || o.Begun() != begun {
		t.Fatalf("state %d, has %t, begun %t; want %d, %t, %t", o.State(), o.Has(), o.Begun(), m.state, m.has, begun)
	}
}

// results compares a result.
func results(t *testing.T, what string, got, want outbox.Result) {
	t.Helper()
	if !reflect.DeepEqual(got, want) {
		t.Fatalf("%s is %+v, want %+v", what, got, want)
	}
}

// texts compares what Send or Opened returns.
func texts(t *testing.T, what, got string, e api.Errno, want string, f api.Errno) {
	t.Helper()
	if got != want || e != f {
		t.Fatalf("%s is %q, error %d; want %q, %d", what, got, e, want, f)
	}
}

// pieces are what backends send, most of them whole responses to some method.
var pieces = []string{
	"HTTP/1.1 200 OK\r\nContent-Length: 3\r\n\r\nabc",
	"HTTP/1.1 200 OK\r\nContent-Length: 0\r\n\r\n",
	"HTTP/1.1 404\r\nContent-Length: 2\r\nConnection: close\r\n\r\nab",
	"HTTP/1.1 200 OK\r\nTransfer-Encoding: chunked\r\n\r\n2\r\nab\r\n1\r\nc\r\n0\r\n\r\n",
	"HTTP/1.1 204 None\r\n\r\n",
	"HTTP/1.1 304 x\r\nConnection: a, Close\r\n\r\n",
	"HTTP/1.1 200 OK\r\n\r\n",
	"HTTP/1.1 200 OK\r\n\r\nto the end",
	"HTTP/1.1 200 OK\r\n\r\ntoo long to end",
	"HTTP/1.1 200 OK\r\nContent-Length: 11\r\n\r\n",
	"HTTP/1.1 100 Continue\r\n\r\n",
	"HTTP/1.1 200 OK\r\nTransfer-Encoding: chunked\r\n\r\n2\r\nabc",
	"x\r\n",
	"HTTP/1.1 200 " + strings.Repeat("x", 40),
}

// step makes a random call, compares its result, and returns how many requests it accepted and how many it ended.
func step(t *testing.T, rng *rand.Rand, o *outbox.Outbox, m *model) (accepted, ended int) {
	var got, want outbox.Result
	switch rng.IntN(12) {
	case 0, 1, 2:
		r, _ := asked([]string{"GET", "HEAD", "POST"}[rng.IntN(3)], "/")
		got, e := o.Send(r)
		want, f := m.send(r)
		texts(t, "Send", got, e, want, f)
		if e == api.OK {
			return 1, 0
		}
		return 0, 0
	case 3, 4:
		got, e := o.Opened()
		want, f := m.opened()
		texts(t, "Opened", got, e, want, f)
		return 0, 0
	case 5:
		got, want = o.Closed(), m.closed()
	case 6:
		if rng.IntN(3) == 0 {
			o.Kill()
			m.die()
		}
	default:
		s := pieces[rng.IntN(len(pieces))]
		if rng.IntN(2) == 0 {
			s = pieces[rng.IntN(4)]
		}
		i := rng.IntN(len(s) + 1)
		got, want = o.Feed(s[:i]), m.feed(s[:i])
		results(t, "Feed", got, want)
		if got.Done || got.Failed {
			break
		}
		got, want = o.Feed(s[i:]), m.feed(s[i:])
	}
	results(t, "the result", got, want)
	if got.Done && got.Failed {
		t.Fatal("both Done and Failed")
	}
	if got.Done || got.Failed {
		return 0, 1
	}
	return 0, 0
}

// P28.1, P28.2: any calls.
func TestRandom(t *testing.T) {
	rng := rand.New(rand.NewPCG(28, 1))
	for range 20000 {
		o, m := outbox.New(usual), &model{limits: usual}
		accepted, ended := 0, 0
		for range 25 {
			a, e := step(t, rng, o, m)
			accepted, ended = accepted+a, ended+e
			same(t, o, m)
			if ended > accepted || o.Has() && ended+1 != accepted {
				t.Fatalf("%d requests ended of %d", ended, accepted)
			}
		}
	}
}

// is checks the state, and whether there is a request and a part of its response.
func is(t *testing.T, o *outbox.Outbox, state int, has, begun bool) {
	t.Helper()
	if o.State() != state || o.Has() != has || o.Begun() != begun {
		t.Errorf("state %d, has %t, begun %t; want %d, %t, %t", o.State(), o.Has(), o.Begun(), state, has, begun)
	}
}

// sends checks what Send returns.
func sends(t *testing.T, o *outbox.Outbox, method, want string, f api.Errno) {
	t.Helper()
	m, _ := asked(method, "/"+method)
	got, e := o.Send(m)
	texts(t, "Send", got, e, want, f)
}

// opens checks what Opened returns.
func opens(t *testing.T, o *outbox.Outbox, want string, f api.Errno) {
	t.Helper()
	got, e := o.Opened()
	texts(t, "Opened", got, e, want, f)
}

// textOf returns the text of the request with the method.
func textOf(method string) string {
	_, text := asked(method, "/"+method)
	return text
}

// connecting, asking, ready, busy and dead return a new outbox in that state; one that is asking is Connecting and has a request.
func connecting() *outbox.Outbox { return outbox.New(usual) }

func asking() *outbox.Outbox { return send(connecting(), "GET") }

func ready() *outbox.Outbox {
	o := connecting()
	o.Opened()
	return o
}

func busy(method string) *outbox.Outbox { return send(ready(), method) }

func dead() *outbox.Outbox {
	o := connecting()
	o.Kill()
	return o
}

func send(o *outbox.Outbox, method string) *outbox.Outbox {
	m, _ := asked(method, "/"+method)
	o.Send(m)
	return o
}

// nothing is no result.
var nothing outbox.Result

// failed is the result of a request without a response.
var failed = outbox.Result{Failed: true}

// done checks a result with the response of the text and the kind.
func done(t *testing.T, r outbox.Result, text string, kind int) {
	t.Helper()
	if !r.Done || r.Failed || r.Message.Text() != text || r.Message.Kind != kind {
		t.Errorf("%+v, want %q of kind %d", r, text, kind)
	}
}

// P28.1: the numbers of the states.
func TestStates(t *testing.T) {
	if outbox.Connecting != 0 || outbox.Ready != 1 || outbox.Busy != 2 || outbox.Dead != 3 {
		t.Error("the states have other numbers")
	}
	is(t, connecting(), 0, false, false)
	is(t, asking(), 0, true, false)
	is(t, ready(), 1, false, false)
	is(t, busy("GET"), 2, true, false)
	is(t, dead(), 3, false, false)
}

// P28.1: the document's example, and a second request after it.
func TestExample(t *testing.T) {
	o := connecting()
	sends(t, o, "GET", "", api.OK)
	is(t, o, outbox.Connecting, true, false)
	opens(t, o, textOf("GET"), api.OK)
	is(t, o, outbox.Busy, true, false)
	done(t, o.Feed(pieces[0]), pieces[0], 1)
	is(t, o, outbox.Ready, false, false)
	sends(t, o, "POST", textOf("POST"), api.OK)
	is(t, o, outbox.Busy, true, false)
	done(t, o.Feed(pieces[1]), pieces[1], 1)
	is(t, o, outbox.Ready, false, false)
}

// P28.1: Send in each state.
func TestSend(t *testing.T) {
	o := asking()
	sends(t, o, "POST", "", api.ErrState)
	is(t, o, outbox.Connecting, true, false)
	opens(t, o, textOf("GET"), api.OK)
	sends(t, o, "POST", "", api.ErrState)
	is(t, o, outbox.Busy, true, false)
	o.Feed("H")
	sends(t, o, "POST", "", api.ErrState)
	is(t, o, outbox.Busy, true, true)
	sends(t, dead(), "GET", "", api.ErrState)
	sends(t, ready(), "PUT", textOf("PUT"), api.OK)
}

// P28.1: a request of another method that was not accepted changes nothing of how the response is parsed.
func TestSendRefused(t *testing.T) {
	o := busy("HEAD")
	sends(t, o, "GET", "", api.ErrState)
	done(t, o.Feed("HTTP/1.1 200 OK\r\nContent-Length: 5\r\n\r\n"), "HTTP/1.1 200 OK\r\nContent-Length: 5\r\n\r\n", 0)
	a := send(connecting(), "HEAD")
	sends(t, a, "GET", "", api.ErrState)
	opens(t, a, textOf("HEAD"), api.OK)
	done(t, a.Feed("HTTP/1.1 200 OK\r\n\r\n"), "HTTP/1.1 200 OK\r\n\r\n", 0)
	is(t, a, outbox.Ready, false, false)
}

// P28.1: Opened in each state; the request is sent once.
func TestOpened(t *testing.T) {
	o := asking()
	opens(t, o, textOf("GET"), api.OK)
	opens(t, o, "", api.ErrState)
	is(t, o, outbox.Busy, true, false)
	p := connecting()
	opens(t, p, "", api.OK)
	is(t, p, outbox.Ready, false, false)
	opens(t, p, "", api.ErrState)
	is(t, p, outbox.Ready, false, false)
	sends(t, p, "GET", textOf("GET"), api.OK)
	opens(t, p, "", api.ErrState)
	q := dead()
	opens(t, q, "", api.ErrState)
	is(t, q, outbox.Dead, false, false)
}

// P28.1: bytes that nobody asked for.
func TestFeedUnasked(t *testing.T) {
	for _, s := range []string{"x", "\n", pieces[0], pieces[7]} {
		for _, c := range []struct {
			o    *outbox.Outbox
			want outbox.Result
		}{{connecting(), nothing}, {asking(), failed}, {ready(), nothing}} {
			o, state, has := c.o, c.o.State(), c.o.Has()
			results(t, "Feed", o.Feed(""), nothing)
			is(t, o, state, has, false)
			results(t, "Feed", o.Feed(s), c.want)
			is(t, o, outbox.Dead, false, false)
			results(t, "Feed", o.Feed(s), nothing)
			results(t, "Closed", o.Closed(), nothing)
			sends(t, o, "GET", "", api.ErrState)
			opens(t, o, "", api.ErrState)
		}
	}
}

// P28.1: responses of each kind, however they are divided, and whether the connection may be used again.
func TestResponses(t *testing.T) {
	for _, c := range []struct {
		method, text, want string
		kind, state        int
	}{
		{"GET", pieces[0], pieces[0], 1, outbox.Ready},
		{"POST", pieces[1], pieces[1], 1, outbox.Ready},
		{"GET", pieces[2], "HTTP/1.1 404 \r\nContent-Length: 2\r\nConnection: close\r\n\r\nab", 1, outbox.Dead},
		{"PUT", pieces[3], "HTTP/1.1 200 OK\r\nTransfer-Encoding: chunked\r\n\r\nabc", 2, outbox.Ready},
		{"GET", pieces[4], pieces[4], 0, outbox.Ready},
		{"GET", pieces[5], pieces[5], 0, outbox.Dead},
		{"HEAD", pieces[6], pieces[6], 0, outbox.Ready},
		{"HEAD", "HTTP/1.1 200 OK\r\nContent-Length: 50\r\n\r\n", "HTTP/1.1 200 OK\r\nContent-Length: 50\r\n\r\n", 0, outbox.Ready},
		{"HEAD", "HTTP/1.1 200 OK\r\nConnection: CLOSE\r\n\r\n", "HTTP/1.1 200 OK\r\nConnection: CLOSE\r\n\r\n", 0, outbox.Dead},
	} {
		for i := range len(c.text) {
			o := busy(c.method)
			results(t, "Feed", o.Feed(c.text[:i]), nothing)
			is(t, o, outbox.Busy, true, i > 0)
			results(t, "Feed", o.Feed(""), nothing)
			is(t, o, outbox.Busy, true, i > 0)
			done(t, o.Feed(c.text[i:]), c.want, c.kind)
			is(t, o, c.state, false, false)
		}
	}
}

// P28.1, P28.2: bytes after a response are no part of it, and make the outbox Dead; if they arrive later, it was Ready until then.
func TestBytesLeft(t *testing.T) {
	for _, text := range []string{pieces[0], pieces[1], pieces[4], "HTTP/1.1 200 OK\r\nTransfer-Encoding: chunked\r\n\r\n0\r\n\r\n"} {
		for _, more := range []string{"x", "\r", "\r\n", pieces[0], pieces[6]} {
			o := busy("GET")
			want := busy("GET").Feed(text)
			results(t, "Feed", o.Feed(text+more), want)
			is(t, o, outbox.Dead, false, false)
			results(t, "Feed", o.Feed(more), nothing)
			results(t, "Closed", o.Closed(), nothing)
			p := busy("GET")
			results(t, "Feed", p.Feed(text), want)
			is(t, p, outbox.Ready, false, false)
			results(t, "Feed", p.Feed(more), nothing)
			is(t, p, outbox.Dead, false, false)
		}
	}
}

// P28.1: what is no response, or is too long.
func TestErrors(t *testing.T) {
	for _, text := range []string{
		"\n", "x\r\n", "\r\n", "HTTP/1.1 100 Continue\r\n", "HTTP/1.0 200 OK\r\n", "HTTP/1.1 200 OK\r\n a: b\r\n",
		"HTTP/1.1 200 OK\r\nContent-Length: 1\r\nContent-Length: 2\r\n\r\n", "HTTP/1.1 200 OK\r\nContent-Length: 1\r\nTransfer-Encoding: chunked\r\n\r\n",
		"HTTP/1.1 200 OK\r\nContent-Length: 11\r\n\r\n", "HTTP/1.1 200 OK\r\nTransfer-Encoding: chunked\r\n\r\nb\r\n", "HTTP/1.1 200 OK\r\nTransfer-Encoding: chunked\r\n\r\nx", "HTTP/1.1 200 OK\r\n\r\n01234567890",
		strings.Repeat("x", 41), "HTTP/1.1 200 OK\r\n" + strings.Repeat("x", 101), "HTTP/1.1 200 OK\r\n" + strings.Repeat("a:\r\n", 5),
	} {
		for _, more := range []string{"", "x", pieces[0]} {
			o := busy("GET")
			results(t, "Feed", o.Feed(text[:len(text)-1]), nothing)
			is(t, o, outbox.Busy, true, len(text) > 1)
			results(t, "Feed", o.Feed(text[len(text)-1:]+more), failed)
			is(t, o, outbox.Dead, false, false)
			results(t, "Feed", o.Feed(pieces[0]), nothing)
			results(t, "Closed", o.Closed(), nothing)
			sends(t, o, "GET", "", api.ErrState)
		}
	}
}

// P28.1: Closed in each state.
func TestClosed(t *testing.T) {
	for _, c := range []struct {
		o    *outbox.Outbox
		want outbox.Result
	}{{connecting(), nothing}, {asking(), failed}, {ready(), nothing}, {busy("GET"), failed}, {dead(), nothing}} {
		o := c.o
		results(t, "Closed", o.Closed(), c.want)
		is(t, o, outbox.Dead, false, false)
		results(t, "Closed", o.Closed(), nothing)
		results(t, "Feed", o.Feed(pieces[0]), nothing)
		sends(t, o, "GET", "", api.ErrState)
		opens(t, o, "", api.ErrState)
		is(t, o, outbox.Dead, false, false)
	}
}

// P28.1: the end of the connection completes a response whose body ends with it, and no other one.
func TestClosedInAResponse(t *testing.T) {
	for _, text := range pieces[:4] {
		for i := range len(text) {
			o := busy("GET")
			o.Feed(text[:i])
			results(t, "Closed", o.Closed(), failed)
			is(t, o, outbox.Dead, false, false)
		}
	}
	const head = "HTTP/1.1 200 OK\r\nA: b\r\n\r\n"
	for _, body := range []string{"", "x", "\r\n", pieces[0][:10]} {
		o := busy("GET")
		results(t, "Feed", o.Feed(head+body), nothing)
		is(t, o, outbox.Busy, true, true)
		done(t, o.Closed(), head+body, 3)
		is(t, o, outbox.Dead, false, false)
		results(t, "Closed", o.Closed(), nothing)
	}
	for i := range len(head) {
		o := busy("GET")
		o.Feed(head[:i])
		results(t, "Closed", o.Closed(), failed)
	}
}

// P28.1: a request that is killed is neither Done nor Failed.
func TestKill(t *testing.T) {
	begun := busy("GET")
	begun.Feed("HTTP/1.1 200 OK\r\n\r\nx")
	for _, o := range []*outbox.Outbox{connecting(), asking(), ready(), busy("GET"), begun, dead()} {
		for range 2 {
			o.Kill()
			is(t, o, outbox.Dead, false, false)
		}
		results(t, "Closed", o.Closed(), nothing)
		results(t, "Feed", o.Feed("x"), nothing)
		sends(t, o, "GET", "", api.ErrState)
		opens(t, o, "", api.ErrState)
		is(t, o, outbox.Dead, false, false)
	}
}

// P28.1: Begun is about the current response only.
func TestBegun(t *testing.T) {
	o := busy("GET")
	for i := range len(pieces[0]) - 1 {
		is(t, o, outbox.Busy, true, i > 0)
		o.Feed(pieces[0][i : i+1])
	}
	o.Feed("c")
	is(t, o, outbox.Ready, false, false)
	sends(t, o, "GET", textOf("GET"), api.OK)
	is(t, o, outbox.Busy, true, false)
	o.Feed("")
	is(t, o, outbox.Busy, true, false)
	o.Feed("H")
	is(t, o, outbox.Busy, true, true)
}

// P28.2: many requests on one connection: each has its own response, parsed for its own method, within the same limits.
func TestOnce(t *testing.T) {
	o := ready()
	for range 50 {
		sends(t, o, "HEAD", textOf("HEAD"), api.OK)
		done(t, o.Feed("HTTP/1.1 200 OK\r\nContent-Length: 3\r\n\r\n"), "HTTP/1.1 200 OK\r\nContent-Length: 3\r\n\r\n", 0)
		sends(t, o, "GET", textOf("GET"), api.OK)
		results(t, "Feed", o.Feed("HTTP/1.1 200 OK\r\nContent-Length: 3\r\n\r\n"), nothing)
		done(t, o.Feed("abc"), pieces[0], 1)
		sends(t, o, "POST", textOf("POST"), api.OK)
		done(t, o.Feed(pieces[3]), "HTTP/1.1 200 OK\r\nTransfer-Encoding: chunked\r\n\r\nabc", 2)
	}
	sends(t, o, "GET", textOf("GET"), api.OK)
	results(t, "Feed", o.Feed("HTTP/1.1 200 OK\r\nContent-Length: 11\r\n\r\n"), failed)
}

// P28.1: any limits, and a zero Outbox, which accepts no byte of a response.
func TestLimits(t *testing.T) {
	for _, o := range []*outbox.Outbox{{}, outbox.New(request.Limits{}), outbox.New(request.Limits{Line: math.MinInt, Head: -1, Count: -1, Body: math.MinInt})} {
		is(t, o, outbox.Connecting, false, false)
		sends(t, o, "GET", "", api.OK)
		opens(t, o, textOf("GET"), api.OK)
		results(t, "Feed", o.Feed("H"), failed)
		is(t, o, outbox.Dead, false, false)
	}
	o := send(outbox.New(request.Limits{Line: math.MaxInt, Head: math.MaxInt, Count: math.MaxInt, Body: math.MaxInt}), "GET")
	o.Opened()
	results(t, "Feed", o.Feed("HTTP/1.1 200 OK\r\n\r\n"+strings.Repeat("x", 100000)), nothing)
	if r := o.Closed(); len(r.Message.Body) != 100000 {
		t.Errorf("%d bytes", len(r.Message.Body))
	}
}

// Rule 5: what is passed is neither changed nor kept, and what is returned is new memory.
func TestMemory(t *testing.T) {
	m, text := asked("GET", "/")
	m.Fields = append(make(fields.Fields, 0, 9), m.Fields...)
	spare := m.Fields[1:2]
	spare[0] = fields.Field{Name: "spare", Value: "spare"}
	o := connecting()
	o.Send(m)
	if spare[0].Name != "spare" || m.Text() != text {
		t.Error("Send changed its argument")
	}
	m.Fields[0].Value = "changed"
	opens(t, o, text, api.OK)
	r := o.Feed(pieces[0])
	clear(r.Message.Fields[:cap(r.Message.Fields)])
	sends(t, o, "GET", textOf("GET"), api.OK)
	done(t, o.Feed(pieces[0]), pieces[0], 1)
}
