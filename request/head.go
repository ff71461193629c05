package request

import (
	"slices"

	"steward/api"
	"steward/fields"
)

const (
	carriage = '\r'
	feed     = '\n'
	lineEnd  = "\r\n"
)

// Limits are how long a first line, all field lines with their ends, and a body may be, and how many fields there may be.
type Limits struct{ Line, Head, Count, Body int }

// state is the part of a head that comes next.
type state int

const (
	inFirst state = iota
	inFields
	done
	failed
)

// Head is a first line and fields whose bytes arrive.
type Head struct {
	Limits
	state    state
	first    string
	received fields.Fields
	size     int    // of all complete field lines, with their ends
	line     []byte // the bytes of the current line
	returned bool   // whether the byte 13 has come after them
	e        api.Errno
}

// NewHead returns a head that has received nothing.
func NewHead(l Limits) *Head {
	l.Line, l.Head, l.Count = max(l.Line, 0), max(l.Head, 0), max(l.Count, 0)
	return &Head{Limits: l}
}

// Feed processes bytes, and returns those after the empty line, or the error that there is.
func (h *Head) Feed(s string) (string, api.Errno) {
	for s != "" && h.state != done && h.state != failed {
		h.take(s[0])
		s = s[1:]
	}
	if h.state == failed {
		return "", h.e
	}
	return s, api.OK
}

// Done reports whether the empty line has been received.
func (h *Head) Done() bool {
	return h.state == done
}

// Begun reports whether the end of the first line has been received.
func (h *Head) Begun() bool {
	return h.state == inFields || h.state == done
}

// First returns the first line without its end.
func (h *Head) First() string {
	return h.first
}

// Fields returns the fields so far.
func (h *Head) Fields() fields.Fields {
	return slices.Clone(h.received)
}

// take processes a byte. The bytes 13 and 10 are accepted only one after the other.
func (h *Head) take(c byte) {
	switch {
	case h.returned != (c == feed):
		h.fail(api.ErrForm)
	case c == feed:
		h.endLine()
	case c == carriage:
		h.returned = true
	default:
		h.extendLine(c)
	}
}

// extendLine fails as soon as a line is too long, so that no one can fill the memory with a line that never ends.
func (h *Head) extendLine(c byte) {
	h.line = append(h.line, c)
	if h.state == inFirst && len(h.line) > h.Line || h.state == inFields && h.size+len(h.line) > h.Head {
		h.fail(api.ErrLong)
	}
}

func (h *Head) endLine() {
	line := string(h.line)
	h.line, h.returned = h.line[:0], false
	switch {
	case h.state == inFirst:
		h.first, h.state = line, inFields
	case line == "":
		h.state = done
	default:
		h.addField(line)
	}
}

func (h *Head) addField(line string) {
	f, e := fields.Parse(line)
	h.received = append(h.received, f)
	h.size += len(line) + len(lineEnd)
	if h.size > h.Head || len(h.received) > h.Count {
		e = api.ErrLong
	}
	if e != api.OK {
		h.fail(e)
	}
}

// fail forgets the lines, too, which nobody is told after an error.
func (h *Head) fail(e api.Errno) {
	*h = Head{state: failed, e: e}
}
