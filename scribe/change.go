package scribe

import (
	"strconv"
	"strings"
)

// fit tells how many bytes a change makes of a text of that length.
func fit(change list, length int) (int, error) {
	if err := change.check(); err != nil {
		return 0, &trouble{"fit", err}
	}
	over, makes, err := change.size()
	if err != nil {
		return 0, &trouble{"fit", err}
	}
	if over != length {
		return 0, &trouble{"fit " + strconv.Itoa(over) + " to " + strconv.Itoa(length), errNoFit}
	}
	return makes, nil
}

func short(change list) ([]Part, error) {
	if err := change.check(); err != nil {
		return nil, &trouble{"short", err}
	}
	if _, _, err := change.size(); err != nil {
		return nil, &trouble{"short", err}
	}
	return shortened(change), nil
}

// shortened is the short form of a change that fits some text.
func shortened(change list) []Part {
	var w writer
	read(change).each(w.lay)
	return w.change()
}

func do(text string, change list) (string, error) {
	makes, err := fit(change, len(text))
	if err != nil {
		return "", &trouble{"do", err}
	}
	var out strings.Builder
	out.Grow(makes)
	read(change).each(func(p Part) {
		switch p.Kind {
		case Keep:
			out.WriteString(text[:p.N])
			fallthrough
		case Drop:
			text = text[p.N:]
		case Add:
			out.WriteString(p.Text)
		}
	})
	return out.String(), nil
}

func join(a, b list) ([]Part, error) {
	if err := checkBoth(a, b); err != nil {
		return nil, &trouble{"join", err}
	}
	_, makes, err := a.size()
	if err != nil {
		return nil, &trouble{"join: a", err}
	}
	if _, err := fit(b, makes); err != nil {
		return nil, &trouble{"join: b", err}
	}
	return joined(read(a), read(b)), nil
}

// joined makes one change of a and of b, which fits what a makes.
func joined(a, b *reader) []Part {
	var w writer
	for a.kind() != 0 || b.kind() != 0 {
		switch {
		case a.kind() == Drop:
			w.lay(a.rest())
		case b.kind() == Add:
			w.lay(b.rest())
		default:
			p, q := abreast(a, b)
			if q.Kind == Keep {
				w.lay(p)
			} else if p.Kind == Keep { // what a adds and b drops was never there
				w.lay(q)
			}
		}
	}
	return w.change()
}

// abreast takes equally many bytes of both, as many as are left of the lesser part.
func abreast(a, b *reader) (Part, Part) {
	n := min(a.left(), b.left())
	return a.take(n), b.take(n)
}

func turn(a, b list) ([]Part, []Part, error) {
	if err := checkBoth(a, b); err != nil {
		return nil, nil, &trouble{"turn", err}
	}
	over, _, err := a.size()
	if err != nil {
		return nil, nil, &trouble{"turn: a", err}
	}
	if _, err := fit(b, over); err != nil {
		return nil, nil, &trouble{"turn: b", err}
	}
	x, y := turned(read(shortened(a)), read(shortened(b)))
	return x, y, nil
}

// turned makes, of two short changes of one text, a turned by b and b turned by a.
func turned(a, b *reader) ([]Part, []Part) {
	var x, y writer
	for a.kind() != 0 || b.kind() != 0 {
		switch {
		case a.kind() == Add: // ahead of what b adds there
			p := a.rest()
			x.lay(p)
			y.keep(len(p.Text))
		case b.kind() == Add:
			q := b.rest()
			x.keep(len(q.Text))
			y.lay(q)
		default:
			p, q := abreast(a, b)
			if q.Kind == Keep { // else these bytes are gone when a comes
				x.lay(p)
			}
			if p.Kind == Keep {
				y.lay(q)
			}
		}
	}
	return x.change(), y.change()
}
