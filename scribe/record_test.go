package scribe

import (
	"errors"
	"slices"
	"strings"
	"testing"

	"scribe/files"
)

func sameRecord(a, b record) bool {
	return a.doc == b.doc && a.client == b.client && slices.Equal(a.change, b.change)
}

var someRecords = []record{
	{doc: "d"},
	{doc: "abcdef"},
	{"d", "me", nil},
	{"d", "me", list{{Kind: Keep, N: 1 << 62}}},
	{"d", "me", list{{Kind: Drop, N: 3}, {Kind: Keep, N: 10}}},
	{"d", "me", list{{Kind: Add, Text: "."}, {Kind: Drop, N: 3}, {Kind: Add, Text: "\n\"\\\x00\xff.=1-2 é"}}},
}

// P10: a record comes back from its line, and none comes back from less of it: so what is torn is never taken for whole.
func TestRecord(t *testing.T) {
	for _, r := range someRecords {
		line, ok := strings.CutPrefix(r.encode(), breakMark)
		if !ok || strings.Contains(line, breakMark) {
			t.Errorf("%v has the line %q", r, line)
		}
		if got, err := decode(line); err != nil || !sameRecord(got, r) {
			t.Errorf("%v comes back as %v, %v", r, got, err)
		}
		for i := range line {
			if got, err := decode(line[:i]); !errors.Is(err, errTorn) || !sameRecord(got, record{}) {
				t.Errorf("%q is taken for %v, %v", line[:i], got, err)
			}
		}
	}
}

func TestNoRecord(t *testing.T) {
	for _, line := range []string{"", ".", " .", "d", "d..", "d.x", "D.", "abcdefg.", " me.", "d .", "d  me.", "d Me.", "d abcdefg.", "d me =1.", "d me=.", "d me=x.", "d me=-1.", "d me=+1.", "d me+1.", "d me=99999999999999999999.", "d me1.", `d me"x.`, "d me'x'.", "d me`x`.", `d me"\q".`, `d me"x"".`, "d=1.", `d"x".`, "d me\xff.", "é."} {
		if r, err := decode(line); !errors.Is(err, errTorn) || !sameRecord(r, record{}) {
			t.Errorf("%q is taken for %v, %v", line, r, err)
		}
	}
}

// The log tells its records in their order, past all that is torn, and closes the channel behind them.
func TestTell(t *testing.T) {
	f := files.New(0)
	l := log{files: f}
	l.open()
	for i, r := range someRecords {
		if i%2 == 0 {
			f.Append(logName, r.encode()[:i])
		}
		if err := l.write(r); err != nil {
			t.Fatal(err)
		}
	}
	records := make(chan record)
	go l.tell(records)
	var got []record
	for r := range records {
		got = append(got, r)
	}
	if !slices.EqualFunc(got, someRecords, sameRecord) {
		t.Errorf("told: %v", got)
	}
}

// What is over is not remembered: of each client one change, however many there were.
func TestForgets(t *testing.T) {
	s, _ := start(files.New(0))
	s.create("d")
	for i := range 20 {
		for _, client := range []string{"me", "you"} {
			if _, err := s.submit(client, i+1, "d", 0, nil); err != nil {
				t.Fatal(err)
			}
		}
	}
	if len(s.made) != 2 || len(s.last) != 2 {
		t.Errorf("remembered: %v, %v", s.made, s.last)
	}
}

// Errors of the server wrap one another, and become numbers at the face alone.
func TestServerTroubleWraps(t *testing.T) {
	s, _ := start(files.New(6))
	s.create("d")
	submit := func(seq int, doc string, base int, change ...Part) error {
		_, err := s.submit("me", seq, doc, base, change)
		return err
	}
	for _, c := range []struct {
		err  error
		want string
		n    Errno
	}{
		{s.create("A"), "make: document: 'A': this is no name", ErrName},
		{s.create("d"), "make: document d: there is one already", ErrTwice},
		{s.create("abc"), "make: log: the files are full", ErrFull},
		{submit(1, "e", 0), "submit: document: there is none", ErrNone},
		{submit(0, "d", 0), "submit: number 0 of me: this is over", ErrOld},
		{submit(3, "d", 0), "submit: number 3 of me: this is not the next", ErrGap},
		{submit(1, "d", 2), "submit: document d: revision 2: this is no revision", ErrBase},
		{submit(1, "d", 0, Part{}), "submit: document d: fit: part 0: kind 0: this is no change", ErrOp},
		{submit(1, "d", 0, Part{Kind: Keep, N: 1}), "submit: document d: fit 1 to 0: this change does not fit", ErrLength},
		{submit(1, "d", 0), "submit: log: the files are full", ErrFull},
		{s.checkRoom("me", make(document, maxRevs)), "revisions: there are too many", ErrMany},
	} {
		if c.err == nil || c.err.Error() != c.want || number(c.err) != c.n {
			t.Errorf("%v, number %d, want %s, %d", c.err, number(c.err), c.want, c.n)
		}
	}
}
