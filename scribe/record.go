package scribe

import (
	"strconv"
	"strings"
)

// record is what the log keeps of a call: that a document was made or, if there is a client, its change as it was done.
type record struct {
	doc    string
	client string
	change list
}

// A record has a line of its own. The line's break comes ahead of it: so it stands apart from whatever a loss of power left there.
// The mark of its end is found nowhere else in it (but in Texts, where all is quoted): so no torn one is taken for a whole one.
const (
	breakMark  = "\n"
	clientMark = " "
	keepMark   = "="
	dropMark   = "-"
	addMark    = `"`
	endMark    = "."
)

// encode answers a record's line, with its break.
func (r record) encode() string {
	var line strings.Builder
	line.WriteString(breakMark + r.doc)
	if r.client != "" {
		line.WriteString(clientMark + r.client)
	}
	read(r.change).each(func(p Part) {
		switch p.Kind {
		case Keep:
			line.WriteString(keepMark + strconv.Itoa(p.N))
		case Drop:
			line.WriteString(dropMark + strconv.Itoa(p.N))
		case Add:
			line.WriteString(strconv.Quote(p.Text))
		}
	})
	line.WriteString(endMark)
	return line.String()
}

// decode answers the record of a line, or that there is none.
func decode(line string) (r record, err error) {
	defer func() {
		if recover() != nil {
			r, err = record{}, &trouble{"record of " + strconv.Itoa(len(line)) + " bytes", errTorn}
		}
	}()
	s := scanner{line}
	r.doc = s.name()
	if s.skip(clientMark) {
		r.client = s.name()
		for !s.skip(endMark) {
			r.change = append(r.change, s.part())
		}
	} else {
		s.must(s.skip(endMark))
	}
	s.must(s.left == "")
	return r, nil
}

// scanner goes over a line. It panics where the line does not go on as it must, which may be anywhere; decode catches that.
type scanner struct {
	left string
}

func (s *scanner) must(holds bool) {
	if !holds {
		panic(errTorn)
	}
}

// skip goes past a mark, if that comes.
func (s *scanner) skip(mark string) bool {
	left, found := strings.CutPrefix(s.left, mark)
	s.left = left
	return found
}

// run goes past all bytes of a range, and answers them.
func (s *scanner) run(first, last rune) string {
	left := strings.TrimLeftFunc(s.left, func(r rune) bool { return first <= r && r <= last })
	out := s.left[:len(s.left)-len(left)]
	s.left = left
	return out
}

func (s *scanner) name() string {
	name := s.run('a', 'z')
	s.must(checkName(name) == nil)
	return name
}

func (s *scanner) number() int {
	n, err := strconv.Atoi(s.run('0', '9'))
	s.must(err == nil)
	return n
}

func (s *scanner) text() string {
	quoted, _ := strconv.QuotedPrefix(s.left) // if there is none: "", which does not stand for a text
	text, err := strconv.Unquote(quoted)
	s.must(err == nil)
	s.left = s.left[len(quoted):]
	return text
}

func (s *scanner) part() Part {
	switch {
	case s.skip(keepMark):
		return Part{Kind: Keep, N: s.number()}
	case s.skip(dropMark):
		return Part{Kind: Drop, N: s.number()}
	default:
		s.must(strings.HasPrefix(s.left, addMark))
		return Part{Kind: Add, Text: s.text()}
	}
}
