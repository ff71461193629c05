package inbox_test

import (
	"math/rand/v2"
	"reflect"
	"slices"
	"strconv"
	"strings"
	"testing"

	"steward/api"
	"steward/fields"
	"steward/inbox"
	"steward/request"
	"steward/response"
	"steward/start"
)

// known is a request by the words of the document.
type known struct {
	message                      request.Message
	closes                       bool
	started, done, isSent, wrong bool
	answer                       string
}

// model is a client's connection by the words of the document: all bytes that are not ignored, and all requests.
type model struct {
	limits request.Limits
	most   int
	bytes  string
	l      []known
}

func newModel(l request.Limits, most int) *model {
	if most < 1 {
		most = 1
	}
	if most > 64 {
		most = 64
	}
	return &model{limits: l, most: most}
}

// own is what a client is told for an error.
var own = map[api.Errno]string{
	api.ErrForm: "HTTP/1.1 400 Bad Request\r\nContent-Type: text/plain\r\nContent-Length: 16\r\nConnection: close\r\n\r\n400 Bad Request\n",
	api.ErrBig:  "HTTP/1.1 413 Content Too Large\r\nContent-Type: text/plain\r\nContent-Length: 22\r\nConnection: close\r\n\r\n413 Content Too Large\n",
	api.ErrLong: "HTTP/1.1 431 Request Header Fields Too Large\r\nContent-Type: text/plain\r\nContent-Length: 36\r\nConnection: close\r\n\r\n431 Request Header Fields Too Large\n",
}

// closing reports whether close is among the parts of the values of Connection.
func closing(l fields.Fields) bool {
	for _, f := range l {
		for part := range strings.SplitSeq(strings.ToLower(f.Value), ",") {
			if strings.ToLower(f.Name) == "connection" && strings.Trim(part, " \t") == "close" {
				return true
			}
		}
	}
	return false
}

func (m *model) last() int {
	for i, k := range m.l {
		if k.closes {
			return i + 1
		}
	}
	return 0
}

// feed parses all bytes again, undivided.
func (m *model) feed(s string) int {
	if m.last() > 0 {
		return 0
	}
	m.bytes += s
	before := len(m.l)
	messages, e := request.New(m.limits).Feed(m.bytes)
	for _, message := range messages[before:] {
		m.l = append(m.l, known{message: message, closes: closing(message.Fields)})
		if m.last() > 0 {
			return len(m.l) - before
		}
	}
	if e != api.OK {
		m.l = append(m.l, known{closes: true, done: true, wrong: true, answer: own[e]})
	}
	return len(m.l) - before
}

func (m *model) waits() bool {
	p := request.New(m.limits)
	p.Feed(m.bytes)
	return p.Waits() && m.last() == 0
}

func (m *model) busy() int {
	n := 0
	for _, k := range m.l {
		if k.started && !k.done {
			n++
		}
	}
	return n
}

func (m *model) left() int {
	n := 0
	for _, k := range m.l {
		if !k.isSent {
			n++
		}
	}
	return n
}

func (m *model) next() (inbox.Slot, bool) {
	i := slices.IndexFunc(m.l, func(k known) bool { return !k.started && !k.done })
	if i < 0 || m.busy() >= m.most {
		return inbox.Slot{}, false
	}
	m.l[i].started = true
	return inbox.Slot{Number: i + 1, Message: m.l[i].message}, true
}

func (m *model) answer(n int, answer response.Message) bool {
	if n < 1 || n > len(m.l) || !m.l[n-1].started || m.l[n-1].done {
		return false
	}
	m.l[n-1].done, m.l[n-1].answer = true, answer.Text()
	return true
}

func (m *model) flush() (string, bool) {
	text := ""
	for i := range m.l {
		k := &m.l[i]
		if !k.done {
			break
		}
		if !k.isSent {
			text, k.isSent = text+k.answer, true
		}
	}
	last := m.last()
	return text, last > 0 && m.l[last-1].isSent
}

// same compares all that can be asked.
func same(t *testing.T, x *inbox.Inbox, m *model) {
	t.Helper()
	if x.Left() != m.left() || x.Busy() != m.busy() || x.Waits() != m.waits() {
		t.Fatalf("%d left, %d busy, waits %t; want %d, %d, %t", x.Left(), x.Busy(), x.Waits(), m.left(), m.busy(), m.waits())
	}
	if x.Busy() > m.most {
		t.Fatalf("%d busy, more than %d", x.Busy(), m.most)
	}
	for n := -1; n <= len(m.l)+1; n++ {
		if got, want := x.Closes(n), n > 0 && n == m.last(); got != want {
			t.Fatalf("Closes(%d) is %t", n, got)
		}
	}
}

// pieces are parts of what clients send, most of them whole requests.
var pieces = []string{
	"GET /a HTTP/1.1\r\nHost: x\r\n\r\n",
	"GET /b HTTP/1.1\r\nhost: x\r\nConnection: keep-alive\r\n\r\n",
	"HEAD /c?d HTTP/1.1\r\nHost: x\r\nA: close\r\n\r\n",
	"POST /e HTTP/1.1\r\nHost: x\r\nContent-Length: 5\r\n\r\nab\r\nc",
	"PUT /f HTTP/1.1\r\nHost: x\r\nTransfer-Encoding: chunked\r\n\r\n3\r\nabc\r\n1\r\nd\r\n0\r\n\r\n",
	"GET /g HTTP/1.1\r\nHost: x\r\n\r\nGET /h HTTP/1.1\r\nHost: x\r\n\r\n",
	"POST /i HTTP/1.1\r\nHost: x\r\nContent-Length: 0\r\n\r\n",
}

// ends are parts with which a connection ends, each of them also a last request.
var ends = []string{
	"GET /a HTTP/1.1\r\nHost: x\r\nConnection: close\r\n\r\n",
	"POST /b HTTP/1.1\r\nHost: x\r\nConnection: x , Close\r\nContent-Length: 2\r\n\r\nab",
	"GET / HTTP/1.1\r\n\r\n",
	"\r\n",
	"GET /a HTTP/1.1\n",
	"POST / HTTP/1.1\r\nHost: x\r\nContent-Length: 10\r\n\r\n",
	"POST / HTTP/1.1\r\nHost: x\r\nTransfer-Encoding: chunked\r\n\r\n5\r\nabcde\r\n5\r\nabcde\r\n0\r\n\r\n",
	"POST / HTTP/1.1\r\nHost: x\r\nTransfer-Encoding: chunked\r\n\r\n5\r\nabcdef",
	"GET /" + strings.Repeat("a", 50) + " HTTP/1.1\r\n",
	"GET / HTTP/1.1\r\nHost: x\r\nA: " + strings.Repeat("a", 100),
	"GET / HTTP/1.1\r\nA:\r\nA:\r\nA:\r\nA:\r\nA:\r\nA:\r\n",
}

// usual are limits that all pieces fit in.
var usual = request.Limits{Line: 50, Head: 100, Count: 5, Body: 9}

// stream returns what a client sends: some requests, perhaps an end, and what follows it.
func stream(rng *rand.Rand) string {
	text := ""
	for range rng.IntN(12) {
		text += pieces[rng.IntN(len(pieces))]
	}
	if rng.IntN(2) == 0 {
		return text
	}
	return text + ends[rng.IntN(len(ends))] + pieces[rng.IntN(len(pieces))] + ends[rng.IntN(len(ends))]
}

// size returns how many of n bytes are received at once.
func size(rng *rand.Rand, n int) int {
	switch rng.IntN(4) {
	case 0:
		return min(n, rng.IntN(5))
	case 1:
		return n
	}
	return rng.IntN(n + 1)
}

// reply returns some answer.
func reply(rng *rand.Rand) response.Message {
	body := strconv.Itoa(rng.IntN(1000))
	return response.Message{Status: start.Status{Code: 200, Reason: "OK"}, Fields: fields.Fields{{Name: "A", Value: body}}, Body: body, Kind: rng.IntN(4)}
}

// step makes a random call, compares its result, and returns the bytes that have not been received and those that were sent.
func step(t *testing.T, rng *rand.Rand, x *inbox.Inbox, m *model, text string) (string, string) {
	switch rng.IntN(5) {
	case 0:
		n := size(rng, len(text))
		if got, want := x.Feed(text[:n]), m.feed(text[:n]); got != want {
			t.Fatalf("Feed(%q) is %d, want %d", text[:n], got, want)
		}
		return text[n:], ""
	case 1:
		got, is := x.Next()
		if want, has := m.next(); is != has || !reflect.DeepEqual(got, want) {
			t.Fatalf("Next is %+v %t, want %+v %t", got, is, want, has)
		}
	case 2, 3:
		n, answer := rng.IntN(len(m.l)+3)-1, reply(rng)
		if got, want := x.Answer(n, answer), m.answer(n, answer); got != want {
			t.Fatalf("Answer(%d) is %t, want %t", n, got, want)
		}
	default:
		got, is := x.Flush()
		if want, has := m.flush(); got != want || is != has {
			t.Fatalf("Flush is %q %t, want %q %t", got, is, want, has)
		}
		return text, got
	}
	return text, ""
}

// P27.1, P27.2, P27.3: any calls, with bytes that are divided in any way.
func TestRandom(t *testing.T) {
	rng := rand.New(rand.NewPCG(27, 1))
	for range 3000 {
		most := rng.IntN(7) - 1
		x, m := inbox.New(usual, most), newModel(usual, most)
		text, sent := stream(rng), ""
		for range 80 {
			rest, flushed := step(t, rng, x, m, text)
			text, sent = rest, sent+flushed
			same(t, x, m)
		}
		want := ""
		for _, k := range m.l {
			if k.isSent {
				want += k.answer
			}
		}
		if sent != want {
			t.Fatalf("sent is %q, want %q", sent, want)
		}
	}
}
