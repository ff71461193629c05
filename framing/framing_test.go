package framing_test

import (
	"math"
	"slices"
	"strings"
	"testing"

	"steward/api"
	"steward/fields"
	"steward/framing"
	"steward/octet"
)

const (
	te = "Transfer-Encoding"
	cl = "Content-Length"
)

// of returns the fields with the names and values, in turn.
func of(l ...string) fields.Fields {
	var out fields.Fields
	for i := 0; i < len(l); i += 2 {
		out = append(out, fields.Field{Name: l[i], Value: l[i+1]})
	}
	return out
}

// end is how a body ends.
type end struct {
	kind, n int
	e       api.Errno
}

var (
	bad = end{e: api.ErrForm}
	big = end{e: api.ErrBig}
)

// ends checks what Request returns for the fields, and that Response returns the same for a response with a body,
// but Close for None, and None for one without.
func ends(t *testing.T, l fields.Fields, most int, want end) {
	t.Helper()
	if kind, n, e := framing.Request(l, most); (end{kind, n, e}) != want {
		t.Errorf("request with %q, at most %d: %d, %d, error %d, want %v", l, most, kind, n, e, want)
	}
	for _, method := range []string{"GET", "POST", "HEAD", "head", ""} {
		for _, code := range []int{200, 204, 205, 304, 404, 599, 0, -1} {
			expected := want
			if method == "HEAD" || code == 204 || code == 304 {
				expected = end{kind: framing.None}
			} else if want == (end{kind: framing.None}) {
				expected = end{kind: framing.Close}
			}
			if kind, n, e := framing.Response(method, code, l, most); (end{kind, n, e}) != expected {
				t.Errorf("response %d to %q with %q, at most %d: %d, %d, error %d, want %v", code, method, l, most, kind, n, e, expected)
			}
		}
	}
}

// P8.1: the numbers of the kinds.
func TestKinds(t *testing.T) {
	if kinds := [4]int{framing.None, framing.Length, framing.Chunked, framing.Close}; kinds != [4]int{0, 1, 2, 3} {
		t.Error(kinds)
	}
}

// P8.1: neither field, whatever others there are and whatever may be the most.
func TestNeither(t *testing.T) {
	for _, l := range []fields.Fields{
		nil, {}, of("Host", "a"), of("Content-Type", "5", "Transfer-Encodings", "chunked", "TE", "chunked", "Trailer", "x", "ContentLength", "5", "Content_Length", "5", "Content-Length ", "5", "", "", "\xff", "5"),
		of("Connection", "close"), of("Upgrade", "h2c", "Connection", "Upgrade"),
	} {
		for _, most := range []int{0, 1, -1, math.MinInt, math.MaxInt} {
			ends(t, l, most, end{kind: framing.None})
		}
	}
}

// P8.1: one length, of 1 to 10 digits, up to the most.
func TestLength(t *testing.T) {
	for value, n := range map[string]int{"0": 0, "5": 5, "10": 10, "05": 5, "0000000000": 0, "0000000010": 10, "2147483648": 1 << 31, "4294967296": 1 << 32, "9999999999": 9999999999} {
		for _, name := range []string{cl, "content-length", "CONTENT-LENGTH", "cONTENT-lENGTH"} {
			l := of("Host", "a", name, value, "X", "1")
			ends(t, l, n, end{kind: framing.Length, n: n})
			ends(t, l, n+1, end{kind: framing.Length, n: n})
			ends(t, l, math.MaxInt, end{kind: framing.Length, n: n})
			ends(t, l, n-1, big)
			ends(t, l, -1, big)
			ends(t, l, math.MinInt, big)
		}
	}
}

// P8.1: lengths of another form, which precedes that they are too big.
func TestLengthOfAnotherForm(t *testing.T) {
	for _, value := range []string{
		"", " ", "00000000000", "00000000005", "12345678901", strings.Repeat("9", 100), "99999999999999999999999", "-1", "-0", "+5", " 5", "5 ", "\t5", "5,5", "5, 5", "5;", "5 5", "5.0", "5e0", "0x5", "5_0", "a", "f", "5a",
		"\u0665", "５", "5\r\n", "5\x00", "\xff", "chunked",
	} {
		for _, most := range []int{math.MaxInt, 10, 0, -1} {
			ends(t, of(cl, value), most, bad)
			ends(t, of(cl, value, cl, value), most, bad)
			ends(t, of(cl, "5", cl, value), most, bad)
			ends(t, of(cl, value, cl, "5"), most, bad)
		}
	}
}

// P8.1: each byte in a length.
func TestLengthOfEachByte(t *testing.T) {
	for i := range 256 {
		c := string([]byte{byte(i)})
		if digit := strings.Index("0123456789", c); digit >= 0 {
			ends(t, of(cl, c), 9, end{kind: framing.Length, n: digit})
			ends(t, of(cl, "1"+c), 19, end{kind: framing.Length, n: 10 + digit})
			continue
		}
		for _, value := range []string{c, "1" + c, c + "1", "1" + c + "1"} {
			ends(t, of(cl, value), 99, bad)
		}
	}
}

// P8.1, P8.2: several lengths are accepted if all have the same value, wherever they are.
func TestSeveralLengths(t *testing.T) {
	five := end{kind: framing.Length, n: 5}
	ends(t, of(cl, "5", cl, "5"), 10, five)
	ends(t, of(cl, "5", "X", "6", "content-LENGTH", "5", "Host", "a", "CONTENT-LENGTH", "5"), 5, five)
	ends(t, of(cl, "05", cl, "05"), 5, five)
	ends(t, of(cl, "5", cl, "5"), 4, big)
	ends(t, of(cl, "5", cl, "6"), 10, bad)
	ends(t, of(cl, "6", cl, "5"), 10, bad)
	ends(t, of(cl, "5", cl, "5", cl, "6"), 10, bad)
	ends(t, of(cl, "5", cl, "6", cl, "5"), 10, bad)
	ends(t, of(cl, "6", cl, "5", cl, "5"), 10, bad)
	ends(t, of(cl, "5", "X", "1", "content-length", "6"), 10, bad)
	// Values are compared as they are written.
	ends(t, of(cl, "5", cl, "05"), 10, bad)
	ends(t, of(cl, "00", cl, "0"), 10, bad)
}

// Rule 2: different lengths are ErrForm, whichever of them are too big.
func TestFormPrecedesBig(t *testing.T) {
	for _, values := range [][2]string{{"11", "12"}, {"5", "11"}, {"11", "5"}, {"11", ""}, {"11", "x"}, {"x", "11"}, {"11", "11,11"}} {
		ends(t, of(cl, values[0], cl, values[1]), 10, bad)
	}
	for _, value := range []string{"11", "5"} {
		ends(t, of(cl, value, te, "chunked"), 10, bad)
		ends(t, of(te, "gzip", cl, value), 10, bad)
		ends(t, of(te, "chunked", cl, value, te, "chunked"), 10, bad)
	}
}

// P8.1: one transfer coding, which is chunked in any case of its letters, whatever may be the most.
func TestChunked(t *testing.T) {
	for _, value := range []string{"chunked", "Chunked", "CHUNKED", "cHUNKEd"} {
		for _, name := range []string{te, "transfer-encoding", "TRANSFER-ENCODING", "tRANSFER-eNCODING"} {
			for _, most := range []int{0, 10, -1, math.MinInt, math.MaxInt} {
				ends(t, of("Host", "a", name, value, "X", "1"), most, end{kind: framing.Chunked})
			}
		}
	}
}

// P8.1: other codings, and chunked among others, or twice.
func TestOtherCodings(t *testing.T) {
	for _, value := range []string{
		"", " ", "gzip", "identity", "gzip, chunked", "chunked, gzip", "chunked, chunked", "chunked,", ",chunked", "chunked;q=1", "chunked;", "\"chunked\"", "chunked ", " chunked", "\tchunked", "chunked\x00", "\x0bchunked", "chunked\r\n",
		"chunke", "chunkeds", "xchunked", "x-chunked", "chun ked", "chunKed\u212a", "chun\u212aed", "\xff", "5", "close",
	} {
		ends(t, of(te, value), 10, bad)
		ends(t, of(te, value, te, "chunked"), 10, bad)
		ends(t, of(te, "chunked", te, value), 10, bad)
		ends(t, of(te, "chunked", "x", value), 10, end{kind: framing.Chunked})
	}
	for i := range 256 {
		c := string([]byte{byte(i)})
		for _, value := range []string{c + "chunked", "chunked" + c, "chun" + c + "ked"} {
			ends(t, of(te, value), 10, bad)
		}
		value := "chun" + c + "ed"
		want := bad
		if c == "k" || c == "K" {
			want = end{kind: framing.Chunked}
		}
		ends(t, of(te, value), 10, want)
	}
	ends(t, of(te, "chunked", te, "chunked"), 10, bad)
	ends(t, of(te, "chunked", "transfer-encoding", "chunked"), 10, bad)
	ends(t, of(te, "chunked", te, "chunked", te, "chunked"), 10, bad)
}

// differing reports whether the fields have both names, or lengths that are different numbers or no numbers.
func differing(l fields.Fields) bool {
	encodings, lengths := 0, []int(nil)
	for _, f := range l {
		switch strings.ToLower(f.Name) {
		case "transfer-encoding":
			encodings++
		case "content-length":
			n, e := octet.Dec(f.Value, math.MaxInt)
			if e != api.OK {
				return true
			}
			lengths = append(lengths, n)
		}
	}
	return encodings > 0 && len(lengths) > 0 || len(slices.Compact(lengths)) > 1
}

// P8.2: of all lists of up to four of these fields, none with both names or with two lengths is accepted.
func TestNeverTwoReadings(t *testing.T) {
	pool := of(cl, "5", "content-length", "5", cl, "05", cl, "6", cl, "", cl, "5, 5", te, "chunked", "transfer-encoding", "CHUNKED", te, "gzip", te, "", "X", "5")
	lists := []fields.Fields{nil}
	for i := 0; len(lists[i]) < 4; i++ {
		for _, f := range pool {
			lists = append(lists, slices.Concat(lists[i], fields.Fields{f}))
		}
	}
	for _, l := range lists {
		if !differing(l) {
			continue
		}
		for _, most := range []int{10, 5, 0, -1} {
			if kind, n, e := framing.Request(l, most); (end{kind, n, e}) != bad {
				t.Fatalf("request with %q, at most %d: %d, %d, error %d", l, most, kind, n, e)
			}
			if kind, n, e := framing.Response("GET", 200, l, most); (end{kind, n, e}) != bad {
				t.Fatalf("response with %q, at most %d: %d, %d, error %d", l, most, kind, n, e)
			}
		}
	}
	if len(lists) != 1+11+11*11+11*11*11+11*11*11*11 {
		t.Error(len(lists))
	}
}

// P8.1: close among the tokens of Connection, in any case and in any of its fields.
func TestPersists(t *testing.T) {
	for _, l := range []fields.Fields{
		of("Connection", "close"), of("connection", "CLOSE"), of("CONNECTION", "cLoSe"), of("Connection", "x, Close"), of("Connection", "close,x"), of("Connection", ",,\tclose ,"), of("Connection", "keep-alive, close"),
		of("Connection", "keep-alive", "Host", "a", "connection", "close"), of("Connection", "", "Connection", "close"), of("Connection", "close", "Connection", "keep-alive"),
	} {
		if framing.Persists(l) {
			t.Errorf("%q persists", l)
		}
	}
	for _, l := range []fields.Fields{
		nil, {}, of("Connection", ""), of("Connection", ","), of("Connection", "keep-alive"), of("Connection", "keep-alive, Upgrade"), of("Connection", "closed"), of("Connection", "clos"), of("Connection", "x-close"), of("Connection", "close x"),
		of("Connection", "close;q=1"), of("Connection", "\"close\""), of("Connection", "clo,se"), of("Connection", "close\x00"), of("Connection", "clo\u017fe"),
		of("Connections", "close"), of("Proxy-Connection", "close"), of("X", "close", "close", "Connection"), of("", "close"),
	} {
		if !framing.Persists(l) {
			t.Errorf("%q does not persist", l)
		}
	}
}

// Rule 5: the fields are left as they are, and so is their spare capacity.
func TestFieldsAreLeft(t *testing.T) {
	l := of(cl, "5", te, "Chunked", "Connection", "Close, X", cl, "6", "spare", "1")
	before := slices.Clone(l)
	for n := range l {
		framing.Request(l[:n], 5)
		framing.Response("GET", 200, l[:n], 5)
		framing.Persists(l[:n])
	}
	if !slices.Equal(l, before) {
		t.Errorf("%q", l)
	}
}
