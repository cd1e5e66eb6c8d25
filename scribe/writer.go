package scribe

import "strings"

// writer takes the parts of a change and makes the change in short of them.
// What is added and dropped waits till something is kept: only then all Texts that come ahead of the Drops are known.
type writer struct {
	out     []Part
	added   strings.Builder
	dropped int
}

// lay takes the next part.
func (w *writer) lay(p Part) {
	switch p.Kind {
	case Keep:
		w.keep(p.N)
	case Add:
		w.added.WriteString(p.Text)
	case Drop:
		w.dropped += p.N
	}
}

func (w *writer) keep(n int) {
	w.settle()
	last := len(w.out) - 1
	if last >= 0 && w.out[last].Kind == Keep {
		w.out[last].N += n
		return
	}
	w.out = append(w.out, Part{Kind: Keep, N: n})
}

// settle writes what waits.
func (w *writer) settle() {
	if w.added.Len() > 0 {
		w.out = append(w.out, Part{Kind: Add, Text: w.added.String()})
		w.added.Reset()
	}
	if w.dropped > 0 {
		w.out = append(w.out, Part{Kind: Drop, N: w.dropped})
		w.dropped = 0
	}
}

// change answers the change in short.
func (w *writer) change() []Part {
	w.settle()
	return w.out
}
