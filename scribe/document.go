package scribe

import (
	"slices"
	"strconv"
)

const maxRevs = 60

// document is all that was done to an empty text, one entry behind the other: as many as its revision tells.
type document []Entry

// check tells what keeps a number from being a revision.
func (d document) check(rev int) error {
	if rev < 0 || rev > len(d) {
		return &trouble{"revision " + strconv.Itoa(rev), errNoRevision}
	}
	return nil
}

// length is how many bytes the text of a revision has: as many as its change made.
func (d document) length(rev int) (int, error) {
	if err := d.check(rev); err != nil || rev == 0 {
		return 0, err
	}
	_, makes, err := list(d[rev-1].Change).size()
	return makes, err
}

func (d document) text(rev int) (string, error) {
	if err := d.check(rev); err != nil {
		return "", err
	}
	text := ""
	for _, e := range d[:rev] {
		next, err := do(text, e.Change)
		if err != nil {
			return "", err
		}
		text = next
	}
	return text, nil
}

func (d document) since(rev int) ([]Entry, error) {
	if err := d.check(rev); err != nil {
		return nil, err
	}
	var out []Entry
	for _, e := range d[rev:] {
		out = append(out, Entry{e.Client, slices.Clone(e.Change)})
	}
	return out, nil
}

// turned answers, in short, a change of the text of a revision as it is to be done to the last one.
func (d document) turned(base int, change list) (list, error) {
	length, err := d.length(base)
	if err != nil {
		return nil, err
	}
	if _, err := fit(change, length); err != nil {
		return nil, err
	}
	change = shortened(change)
	for _, e := range d[base:] {
		if _, change, err = turn(e.Change, change); err != nil {
			return nil, err
		}
	}
	return change, nil
}
