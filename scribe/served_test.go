package scribe_test

import (
	"fmt"
	"math"
	"math/rand"
	"regexp"
	"slices"
	"strings"
	"testing"

	"scribe/files"
	"scribe/scribe"
)

// serving is what a server does, and the model that it must be like.
type serving interface {
	Make(doc string) scribe.Errno
	Submit(client string, seq int, doc string, base int, change []scribe.Part) (int, scribe.Errno)
	Rev(doc string) (int, scribe.Errno)
	Text(doc string, rev int) (string, scribe.Errno)
	Since(doc string, rev int) ([]scribe.Entry, scribe.Errno)
}

// modelServer is the tests' own: it has no files, so nothing is ever too full for it.
type modelServer struct {
	docs map[string][]scribe.Entry
	last map[string]int
	made map[string]int // by client: the revision that its last change made
}

func newModel() *modelServer {
	return &modelServer{map[string][]scribe.Entry{}, map[string]int{}, map[string]int{}}
}

var names = regexp.MustCompile(`\A[a-z]{1,6}\z`)

func (m *modelServer) Make(doc string) scribe.Errno {
	_, there := m.docs[doc]
	switch {
	case !names.MatchString(doc):
		return scribe.ErrName
	case there:
		return scribe.ErrTwice
	case len(m.docs) == 6:
		return scribe.ErrMany
	}
	m.docs[doc] = nil
	return scribe.OK
}

func (m *modelServer) Submit(client string, seq int, doc string, base int, change []scribe.Part) (int, scribe.Errno) {
	last, known := m.last[client]
	l, there := m.docs[doc]
	over, _ := over(change)
	switch {
	case !names.MatchString(client):
		return 0, scribe.ErrName
	case !there:
		return 0, scribe.ErrNone
	case known && seq == last:
		return m.made[client], scribe.OK
	case seq < last || seq < 1:
		return 0, scribe.ErrOld
	case seq > last+1:
		return 0, scribe.ErrGap
	case len(l) == 60 || !known && len(m.last) == 6:
		return 0, scribe.ErrMany
	case base < 0 || base > len(l):
		return 0, scribe.ErrBase
	case slices.ContainsFunc(change, func(p scribe.Part) bool { return slices.Contains(wrongParts, p) }):
		return 0, scribe.ErrOp
	case over != len(textAt(l, base)):
		return 0, scribe.ErrLength
	}
	change = modelJoin(over, whole(over), change)
	for _, e := range l[base:] {
		_, change = modelTurn(e.Change, change)
	}
	m.docs[doc] = append(l, entry(client, change...))
	m.last[client], m.made[client] = seq, len(l)+1
	return len(l) + 1, scribe.OK
}

func textAt(l []scribe.Entry, rev int) string {
	text := ""
	for _, e := range l[:rev] {
		text = modelDo(text, e.Change)
	}
	return text
}

func (m *modelServer) Rev(doc string) (int, scribe.Errno) {
	l, there := m.docs[doc]
	if !there {
		return 0, scribe.ErrNone
	}
	return len(l), scribe.OK
}

func (m *modelServer) Text(doc string, rev int) (string, scribe.Errno) {
	l, e := m.Since(doc, rev)
	if e != scribe.OK {
		return "", e
	}
	all := m.docs[doc]
	return textAt(all, len(all)-len(l)), scribe.OK
}

func (m *modelServer) Since(doc string, rev int) ([]scribe.Entry, scribe.Errno) {
	l, there := m.docs[doc]
	switch {
	case !there:
		return nil, scribe.ErrNone
	case rev < 0 || rev > len(l):
		return nil, scribe.ErrBase
	}
	return l[rev:], scribe.OK
}

// call is one that changes what is served, if it is taken.
type call struct {
	client string // "": a document is made
	seq    int
	doc    string
	base   int
	change parts
}

// on tells what a call answers.
func (c call) on(s serving) (int, scribe.Errno) {
	if c.client == "" {
		return 0, s.Make(c.doc)
	}
	return s.Submit(c.client, c.seq, c.doc, c.base, c.change)
}

// seen tells all that can be asked of what is served, in the names of these documents and clients, and changes nothing.
func seen(s serving, docs, clients []string) string {
	var out strings.Builder
	for _, doc := range docs {
		n, e := s.Rev(doc)
		fmt.Fprintln(&out, doc, n, e)
		for _, rev := range []int{math.MinInt, -1, 0, n / 2, n - 1, n, n + 1, math.MaxInt} {
			text, e := s.Text(doc, rev)
			fmt.Fprintf(&out, "%d %q %d\n", rev, text, e)
			l, e := s.Since(doc, rev)
			fmt.Fprintln(&out, l, e)
		}
		for _, client := range clients { // a base of -1 keeps it from being taken
			for seq, e := -1, scribe.OK; seq < 400 && e != scribe.ErrGap; seq++ {
				var rev int
				rev, e = s.Submit(client, seq, doc, -1, nil)
				fmt.Fprint(&out, client, seq, " ", rev, e, " ")
			}
		}
	}
	return out.String()
}

func startServer(t *testing.T, f *files.Files) *scribe.Server {
	t.Helper()
	s, e := scribe.Start(f)
	if s == nil || e != scribe.OK {
		t.Fatalf("Start = %v, %d", s, e)
	}
	return s
}

// bytesOf tells all that a set of files holds.
func bytesOf(f *files.Files) string {
	var out strings.Builder
	for _, n := range f.Names() {
		s, _ := f.Read(n)
		fmt.Fprintf(&out, "%q %q\n", n, s)
	}
	return out.String()
}

// sizeOf tells how many bytes a set of files holds.
func sizeOf(f *files.Files) int {
	n := 0
	for _, name := range f.Names() {
		s, _ := f.Read(name)
		n += len(s)
	}
	return n
}

// alike wants the same of a server and of the model.
func alike(t *testing.T, what string, s serving, m serving, docs, clients []string) {
	t.Helper()
	if got, want := seen(s, docs, clients), seen(m, docs, clients); got != want {
		t.Fatalf("%s: it serves\n%s\nwant\n%s", what, got, want)
	}
}

// randomCall is often one that is taken, often one that is not.
func randomCall(r *rand.Rand, m *modelServer, docs, clients []string) call {
	pick := func(l []string) string { return l[r.Intn(len(l))] }
	c := call{client: pick(clients), doc: pick(docs)}
	if r.Intn(8) == 0 {
		return call{doc: pick(append(docs, "", "Zz", "toolong"))}
	}
	c.seq = m.last[c.client] + 1
	if r.Intn(4) == 0 {
		c.seq += r.Intn(5) - 3
	}
	l := m.docs[c.doc]
	c.base = max(0, len(l)-r.Intn(5))
	n := len(textAt(l, c.base))
	switch r.Intn(12) {
	case 0:
		c.base = []int{-1, len(l) + 1, math.MinInt, math.MaxInt}[r.Intn(4)]
	case 1:
		n += 1 + r.Intn(3)
	}
	c.change = randomChange(r, n)
	if r.Intn(12) == 0 {
		c.change = append(c.change, wrongParts[r.Intn(len(wrongParts))])
	}
	return c
}
