package scribe

import (
	"slices"
	"strconv"
)

// own is a change that the client has done, and that has not come back to it.
type own struct {
	there bool // an empty change is there, too
	now   list // in short, turned by what was heard since
}

// parcel is what is on its way.
type parcel struct {
	own
	first list // as it was first answered, whatever was heard since
	base  int
}

func newClient(name string, text string, rev int) (*Client, error) {
	if err := checkName(name); err != nil {
		return nil, &trouble{"new client", err}
	}
	if rev < 0 {
		return nil, &trouble{"new client at " + strconv.Itoa(rev), errNoRevision}
	}
	return &Client{name: name, text: text, rev: rev}, nil
}

func (c *Client) edit(change list) error {
	if c == nil { // as NewClient answers it with an error
		return &trouble{"edit without a client", errNoName}
	}
	text, err := do(c.text, change)
	if err != nil {
		return &trouble{"edit", err}
	}
	c.text = text
	c.edits = c.edits.then(change)
	return nil
}

// then answers an own change with one more behind it, which is known to fit.
func (o own) then(change list) own {
	if !o.there {
		return own{true, shortened(change)}
	}
	return own{true, joined(read(o.now), read(change))}
}

func (c *Client) send() ([]Part, int, int, bool) {
	switch {
	case c == nil || !c.way.there && !c.edits.there:
		return nil, 0, 0, false
	case !c.way.there:
		c.way = parcel{own: c.edits, first: c.edits.now, base: c.rev}
		c.edits = own{}
		c.seq++
		fallthrough
	default:
		return slices.Clone(c.way.first), c.seq, c.way.base, true
	}
}

func (c *Client) hear(e Entry) error {
	switch {
	case c == nil:
		return &trouble{"hear without a client", errNoName}
	case e.Client != c.name:
		return c.follow(e.Change)
	case !c.way.there:
		return &trouble{"hear what was not sent", errOver}
	}
	c.way = parcel{}
	c.rev++
	return nil
}

// follow does what another one did to the text of the client's revision.
func (c *Client) follow(change list) error {
	way, edits := c.way, c.edits
	pass := func(o *own) (err error) {
		if o.there {
			change, o.now, err = turn(change, o.now)
		}
		return err
	}
	if err := pass(&way.own); err != nil {
		return &trouble{"hear: by what is on its way", err}
	}
	if err := pass(&edits); err != nil {
		return &trouble{"hear: by the edits", err}
	}
	text, err := do(c.text, change)
	if err != nil {
		return &trouble{"hear", err}
	}
	c.text, c.way, c.edits = text, way, edits
	c.rev++
	return nil
}
