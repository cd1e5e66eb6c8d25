package scribe

import (
	"math"
	"strconv"
)

// longest is how many bytes of a text a change may go over.
const longest = 1 << 62

// list is a change, or what was handed in as one.
type list []Part

// at answers a part, and one without a kind behind the last.
func (l list) at(i int) Part {
	if i < len(l) {
		return l[i]
	}
	return Part{}
}

// check tells what keeps a list from being a change.
func (l list) check() error {
	for i, p := range l {
		if err := checkPart(p); err != nil {
			return &trouble{"part " + strconv.Itoa(i), err}
		}
	}
	return nil
}

func checkPart(p Part) error {
	switch p.Kind {
	case Keep, Drop:
		if p.N <= 0 {
			return &trouble{"a Keep or Drop of no bytes", errNoChange}
		}
		if p.Text != "" {
			return &trouble{"a Keep or Drop with a Text", errNoChange}
		}
	case Add:
		if p.N != 0 {
			return &trouble{"an Add with a number", errNoChange}
		}
		if p.Text == "" {
			return &trouble{"an Add without a Text", errNoChange}
		}
	default:
		return &trouble{"kind " + strconv.Itoa(p.Kind), errNoChange}
	}
	return nil
}

// checkBoth comes ahead of all that is asked of lengths: that one of the two is no change is the first to be told.
func checkBoth(a, b list) error {
	if err := a.check(); err != nil {
		return &trouble{"a", err}
	}
	if err := b.check(); err != nil {
		return &trouble{"b", err}
	}
	return nil
}

// size tells how many bytes of a text a change goes over, and how many it makes of them.
func (l list) size() (over int, makes int, err error) {
	grow := func(sum *int, n int, most int) {
		if n > most-*sum {
			err = &trouble{"more than " + strconv.Itoa(most) + " bytes", errNoFit}
			return
		}
		*sum += n
	}
	read(l).each(func(p Part) {
		switch p.Kind {
		case Keep:
			grow(&makes, p.N, math.MaxInt)
			fallthrough
		case Drop:
			grow(&over, p.N, longest)
		case Add:
			grow(&makes, len(p.Text), math.MaxInt)
		}
	})
	if err != nil {
		return 0, 0, err
	}
	return over, makes, nil
}
