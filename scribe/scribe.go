// Package scribe: texts that many write at once, and a server that loses nothing: see DOC.md.
package scribe

import "scribe/files"

// Errno is what a call answers: OK or the reason for a refusal.
type Errno int

const (
	OK        Errno = 0
	ErrOp     Errno = 1  // no change
	ErrLength Errno = 2  // a change that does not fit
	ErrName   Errno = 3  // no name
	ErrTwice  Errno = 4  // a document that there is already
	ErrNone   Errno = 5  // a document that there is not
	ErrOld    Errno = 6  // a number that is over
	ErrGap    Errno = 7  // a number that is not the next
	ErrBase   Errno = 8  // no revision
	ErrMany   Errno = 9  // too many
	ErrFull   Errno = 10 // the files are full
)

// The kinds of parts.
const (
	Keep int = iota + 1
	Add
	Drop
)

// Part is one of a change.
type Part struct {
	Kind int
	N    int
	Text string
}

// Entry is who changed a document, and how.
type Entry struct {
	Client string
	Change []Part
}

// Client changes a text. Make it by NewClient.
type Client struct {
	name  string
	text  string // that of its revision, with what is on its way and the edits behind that done to it
	rev   int
	seq   int // the number of what was sent last
	way   parcel
	edits own
}

// Server keeps documents. Make it by Start.
type Server struct {
	log  log
	docs map[string]document
	last map[string]int  // by client: the number of the last change that was taken of it
	made map[sending]int // the revision that this change made
}

// Fit tells how many bytes what a change makes has (P2).
func Fit(change []Part, length int) (int, Errno) {
	n, err := fit(change, length)
	return n, number(err)
}

// Short tells a change in short (P2).
func Short(change []Part) ([]Part, Errno) {
	l, err := short(change)
	return l, number(err)
}

// Do does a change to a text (P2).
func Do(text string, change []Part) (string, Errno) {
	s, err := do(text, change)
	return s, number(err)
}

// Join makes one change of two (P3).
func Join(a []Part, b []Part) ([]Part, Errno) {
	l, err := join(a, b)
	return l, number(err)
}

// Turn turns two changes by one another (P4).
func Turn(a []Part, b []Part) ([]Part, []Part, Errno) {
	x, y, err := turn(a, b)
	return x, y, number(err)
}

// NewClient makes a client (P5).
func NewClient(name string, text string, rev int) (*Client, Errno) {
	c, err := newClient(name, text, rev)
	return c, number(err)
}

// Edit changes the client's text (P5).
func (c *Client) Edit(change []Part) Errno { return number(c.edit(change)) }

// Send tells what is to be sent (P5): the change, its number and its base.
func (c *Client) Send() ([]Part, int, int, bool) { return c.send() }

// Hear tells the client the next entry (P6).
func (c *Client) Hear(e Entry) Errno { return number(c.hear(e)) }

// Text tells the client's text (P6).
func (c *Client) Text() string {
	if c == nil {
		return ""
	}
	return c.text
}

// Rev tells the client's revision (P6).
func (c *Client) Rev() int {
	if c == nil {
		return 0
	}
	return c.rev
}

// Start starts a server over files (P7).
func Start(f *files.Files) (*Server, Errno) {
	s, err := start(f)
	return s, number(err)
}

// Make makes a document (P7).
func (s *Server) Make(doc string) Errno { return number(s.create(doc)) }

// Submit takes a change (P8).
func (s *Server) Submit(client string, seq int, doc string, base int, change []Part) (int, Errno) {
	rev, err := s.submit(client, seq, doc, base, change)
	return rev, number(err)
}

// Rev tells a document's revision (P9).
func (s *Server) Rev(doc string) (int, Errno) {
	d, err := s.now().document(doc)
	return len(d), number(err)
}

// Text tells the text of a revision (P9).
func (s *Server) Text(doc string, rev int) (string, Errno) {
	text, err := s.text(doc, rev)
	return text, number(err)
}

// Since tells the entries behind a revision (P9).
func (s *Server) Since(doc string, rev int) ([]Entry, Errno) {
	l, err := s.since(doc, rev)
	return l, number(err)
}
