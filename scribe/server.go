package scribe

import (
	"errors"
	"strconv"
	"strings"

	"scribe/files"
)

const (
	maxDocs    = 6
	maxClients = 6
)

// sending is a change as its client numbers it.
type sending struct {
	client string
	seq    int
}

func start(f *files.Files) (*Server, error) {
	if f == nil {
		return nil, &trouble{"start without files", errFull}
	}
	s := &Server{log: log{files: f}}
	s.load()
	return s, nil
}

// load lets the server hold what the log tells. A record that no server can have written is passed over.
func (s *Server) load() {
	s.docs, s.last, s.made = map[string]document{}, map[string]int{}, map[sending]int{}
	s.log.open()
	records := make(chan record)
	go s.log.tell(records)
	for r := range records {
		if r, err := s.judge(r); err == nil {
			s.enter(r)
		}
	}
}

// now answers the server as it is to be asked: if the log is not as it was left, power was lost meanwhile, and only what the log tells is there.
// In the place of no server comes one that has no documents, and no files to write to.
func (s *Server) now() *Server {
	if s == nil || s.log.files == nil {
		return &Server{}
	}
	if s.log.changed() {
		s.load()
	}
	return s
}

// judge answers a record that was written as it is to be entered, or what keeps it out.
func (s *Server) judge(r record) (record, error) {
	if r.client == "" {
		return r, s.checkNew(r.doc)
	}
	return s.accept(r.client, s.last[r.client]+1, r.doc, len(s.docs[r.doc]), r.change)
}

// enter does what a record tells, and answers the revision that it makes.
func (s *Server) enter(r record) int {
	doc, client := strings.Clone(r.doc), strings.Clone(r.client) // what they were cut from is not kept
	if client == "" {
		s.docs[doc] = nil
		return 0
	}
	d := append(s.docs[doc], Entry{client, r.change})
	seq := s.last[client] + 1
	delete(s.made, sending{client, seq - 1})
	s.docs[doc], s.last[client], s.made[sending{client, seq}] = d, seq, len(d)
	return len(d)
}

func (s *Server) create(doc string) error {
	s = s.now()
	if err := s.checkNew(doc); err != nil {
		return &trouble{"make", err}
	}
	r := record{doc: doc}
	if err := s.log.write(r); err != nil {
		return &trouble{"make", err}
	}
	s.enter(r)
	return nil
}

// checkNew tells what keeps a document from being made.
func (s *Server) checkNew(doc string) error {
	if err := checkName(doc); err != nil {
		return &trouble{"document", err}
	}
	if _, ok := s.docs[doc]; ok {
		return &trouble{"document " + doc, errTwice}
	}
	if len(s.docs) >= maxDocs {
		return &trouble{"document " + doc, errMany}
	}
	return nil
}

func (s *Server) submit(client string, seq int, doc string, base int, change list) (int, error) {
	s = s.now()
	r, err := s.accept(client, seq, doc, base, change)
	if errors.Is(err, errTaken) {
		return s.made[sending{client, seq}], nil
	}
	if err != nil {
		return 0, &trouble{"submit", err}
	}
	if err := s.log.write(r); err != nil {
		return 0, &trouble{"submit", err}
	}
	return s.enter(r), nil
}

// accept answers the record of a change that is to be taken, or what keeps it from that.
func (s *Server) accept(client string, seq int, doc string, base int, change list) (record, error) {
	if err := checkName(client); err != nil {
		return record{}, &trouble{"client", err}
	}
	d, err := s.document(doc)
	if err != nil {
		return record{}, err
	}
	if err := s.checkNumber(client, seq); err != nil {
		return record{}, &trouble{"number " + strconv.Itoa(seq) + " of " + client, err}
	}
	if err := s.checkRoom(client, d); err != nil {
		return record{}, err
	}
	turned, err := d.turned(base, change)
	if err != nil {
		return record{}, &trouble{"document " + doc, err}
	}
	return record{doc, client, turned}, nil
}

// checkNumber tells what keeps a client's number from being the next.
func (s *Server) checkNumber(client string, seq int) error {
	last := s.last[client]
	_, taken := s.made[sending{client, seq}]
	switch {
	case taken:
		return errTaken
	case seq < last || seq < 1:
		return errOver
	case seq != last+1:
		return errGap
	}
	return nil
}

// checkRoom tells whether there is room for one more change of a document, and for its client.
func (s *Server) checkRoom(client string, d document) error {
	if len(d) >= maxRevs {
		return &trouble{"revisions", errMany}
	}
	if _, known := s.last[client]; !known && len(s.last) >= maxClients {
		return &trouble{"clients", errMany}
	}
	return nil
}

func (s *Server) document(doc string) (document, error) {
	d, ok := s.docs[doc]
	if !ok {
		return nil, &trouble{"document", errNone}
	}
	return d, nil
}

func (s *Server) text(doc string, rev int) (string, error) {
	d, err := s.now().document(doc)
	if err != nil {
		return "", &trouble{"text", err}
	}
	return d.text(rev)
}

func (s *Server) since(doc string, rev int) ([]Entry, error) {
	d, err := s.now().document(doc)
	if err != nil {
		return nil, &trouble{"since", err}
	}
	return d.since(rev)
}
