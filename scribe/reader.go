package scribe

// reader goes over a change, and hands out as much of a part as is asked for.
type reader struct {
	list
	next int // the part that comes
	used int // how many bytes of it have been handed out
}

func read(l list) *reader { return &reader{list: l} }

// kind is that of the part that comes; 0: there is none.
func (r *reader) kind() int { return r.at(r.next).Kind }

// left is how many bytes of the part that comes have not been handed out.
func (r *reader) left() int {
	p := r.at(r.next) // of N and Text just one is there
	return p.N + len(p.Text) - r.used
}

// take hands out n bytes of the part that comes, or what is left of it.
func (r *reader) take(n int) Part {
	p := r.at(r.next)
	left := r.left()
	n = min(n, left)
	if p.Kind == Add {
		p.Text = p.Text[r.used : r.used+n]
	} else {
		p.N = n
	}
	r.used += n
	if n == left {
		r.next++
		r.used = 0
	}
	return p
}

// rest hands out all that is left of the part that comes.
func (r *reader) rest() Part { return r.take(r.left()) }

// each hands out part by part till the end.
func (r *reader) each(do func(Part)) {
	for r.kind() != 0 {
		do(r.rest())
	}
}
