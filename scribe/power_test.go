package scribe_test

import (
	"fmt"
	"math/rand"
	"strings"
	"testing"

	"scribe/files"
	"scribe/scribe"
)

var (
	scriptDocs    = []string{"d", "e"}
	scriptClients = []string{"a", "b", "new"}
)

// script is calls of which each is taken, and changes something.
func script() []call {
	return []call{
		{doc: "d"},
		{"a", 1, "d", 0, ch(add("one\ntwo."))},
		{doc: "e"},
		{"b", 1, "d", 0, ch(add("!"))},
		{"a", 2, "d", 1, ch(keep(3), drop(5), add(`"`))},
		{"b", 2, "e", 0, nil},
		{"a", 3, "e", 0, ch(add("x"))},
	}
}

// states are what is to be seen behind none, one and more of the calls.
func states(calls []call) []string {
	m := newModel()
	out := []string{seen(m, scriptDocs, scriptClients)}
	for _, c := range calls {
		c.on(m)
		out = append(out, seen(m, scriptDocs, scriptClients))
	}
	return out
}

// P7, P8: quotas at which each write in turn does not go in: that is refused, and leaves nothing behind.
func TestQuotas(t *testing.T) {
	calls := script()
	_, _, f := served(t, calls, -1)
	all := sizeOf(f)
	for quota := 1; quota <= all; quota++ {
		f := files.New(quota)
		s, e := scribe.Start(f)
		if e == scribe.ErrFull && s == nil {
			continue
		}
		m, refused := newModel(), 0
		for range 2 { // the second time what did not go in is asked for again, or answered again
			for _, c := range calls {
				want, wantE := c.on(m.clone())
				before := bytesOf(f)
				n, e := c.on(s)
				if e == scribe.ErrFull && n == 0 && wantE == scribe.OK {
					refused++
					if bytesOf(f) != before {
						t.Fatalf("within %d bytes, %v was refused, and left something", quota, c)
					}
					continue
				}
				if n != want || e != wantE {
					t.Fatalf("within %d bytes, %v: %d, %d, want %d, %d", quota, c, n, e, want, wantE)
				}
				c.on(m)
			}
			alike(t, fmt.Sprint("within ", quota), s, m, scriptDocs, scriptClients)
			s = startServer(t, f)
			alike(t, fmt.Sprint("within ", quota, ", started again"), s, m, scriptDocs, scriptClients)
		}
		if refused == 0 != (quota == all) {
			t.Errorf("within %d of %d bytes, %d were refused", quota, all, refused)
		}
	}
}

// drill is the script, and what is to be seen behind none, one and more of its calls.
type drill struct {
	calls []call
	after []string
	steps int // as many as all calls take, with those of Start
}

func newDrill(t *testing.T) drill {
	_, _, f := served(t, script(), -1)
	return drill{script(), states(script()), f.Steps()}
}

// round starts a server, and asks it all calls behind the first done ones, while power fails behind so many steps, leaves so much, and is back.
// It answers how many are done then.
func (d drill) round(t *testing.T, f *files.Files, done int, fuse int, left []int) int {
	t.Helper()
	f.Fuse(fuse)
	s, _ := scribe.Start(f)
	sure := done
	for i := done; s != nil && i < len(d.calls); i++ {
		if i > 0 && d.calls[i-1].client != "" { // what was taken may come again at any time
			d.calls[i-1].on(s)
		}
		if _, e := d.calls[i].on(s); e == scribe.OK && !f.Lost() {
			sure = i + 1
		}
	}
	f.Power(left)
	got := seen(startServer(t, f), scriptDocs, scriptClients)
	for n := sure; n <= len(d.calls); n++ {
		if got == d.after[n] {
			return n
		}
	}
	t.Fatalf("power fails behind %d steps and leaves %v: %d calls were done for sure, then it serves\n%s\n%s", fuse, left, sure, got, bytesOf(f))
	return 0
}

// P10: power is lost at each step, and leaves none, one, more or all of the bytes that are not synced; so it is again at each step of what comes behind that.
func TestPowerTwice(t *testing.T) {
	d := newDrill(t)
	for first := range d.steps + 1 {
		for _, left := range [][]int{nil, {1}, {5}, {1000}} {
			for second := range d.steps + 1 {
				for _, again := range [][]int{nil, {3}, {100}} {
					f := files.New(0)
					done := d.round(t, f, 0, first, left)
					done = d.round(t, f, done, second, again)
					done = d.round(t, f, done, d.steps, nil)
					if done != len(d.calls) {
						t.Fatalf("behind %d and %d steps: only %d done in the end", first, second, done)
					}
				}
			}
		}
	}
}

// P10: every number of bytes that a write can leave of itself, and a write behind each torn end; then once more behind that.
func TestTornEnds(t *testing.T) {
	d := newDrill(t)
	calls, after := d.calls, d.after
	torn := 0
	for i := range calls {
		for left := 0; ; left++ {
			f := files.New(0)
			s := startServer(t, f)
			for _, c := range calls[:i] {
				c.on(s)
			}
			before := sizeOf(f)
			f.Fuse(1) // it is laid, and not synced
			calls[i].on(s)
			whole := sizeOf(f) - before
			if whole == 0 {
				t.Fatalf("%v lays nothing by its first step", calls[i])
			}
			f.Power([]int{left})
			s = startServer(t, f)
			got := seen(s, scriptDocs, scriptClients)
			if got != after[i] && (left < whole || got != after[i+1]) {
				t.Fatalf("with %d bytes of %v it serves\n%s", left, calls[i], got)
			}
			if left == whole {
				break
			}
			torn++
			for n, c := range calls[i:] {
				if _, e := c.on(s); e != scribe.OK {
					t.Fatalf("behind %d bytes of %v, %v: %d", left, calls[i], c, e)
				}
				f.Power(nil)
				if got := seen(startServer(t, f), scriptDocs, scriptClients); got != after[i+n+1] {
					t.Fatalf("behind %d bytes of %v, and %v, it serves\n%s", left, calls[i], c, got)
				}
			}
		}
	}
	if torn < 50 {
		t.Errorf("only %d torn ends", torn)
	}
}

// P10: many losses of power, one behind the other, at seeded steps.
func TestPowerOften(t *testing.T) {
	d := newDrill(t)
	for seed := range int64(200) {
		r := rand.New(rand.NewSource(seed))
		f := files.New(0)
		done := 0
		for n := 0; done < len(d.calls); n++ {
			if n == 1000 {
				t.Fatalf("seed %d: no end", seed)
			}
			done = d.round(t, f, done, r.Intn(7), []int{r.Intn(40), r.Intn(40)})
		}
	}
}

// P10: what goes on over power that was lost and is back holds what the files hold, too.
func TestGoesOnBehindPower(t *testing.T) {
	d := newDrill(t)
	for fuse := range d.steps + 1 {
		for _, left := range [][]int{nil, {1}, {4}, {1000}} {
			f := files.New(0)
			f.Fuse(fuse)
			s := startServer(t, f)
			for _, c := range d.calls {
				c.on(s)
			}
			f.Power(left)
			for _, c := range d.calls {
				c.on(s)
				if got, want := seen(startServer(t, f), scriptDocs, scriptClients), seen(s, scriptDocs, scriptClients); got != want {
					t.Fatalf("power failed behind %d steps, and left %v; behind %v there is\n%s\nwant\n%s", fuse, left, c, got, want)
				}
			}
			if got, want := seen(s, scriptDocs, scriptClients), d.after[len(d.calls)]; got != want {
				t.Fatalf("power failed behind %d steps, and left %v; in the end there is\n%s", fuse, left, got)
			}
		}
	}
}

// P10: quotas and losses of power together: what is answered is there, what is refused is not.
func TestPowerWithinQuotas(t *testing.T) {
	calls := script()
	for quota := 1; quota < 150; quota += 3 {
		for fuse := range 20 {
			f := files.New(quota)
			f.Fuse(fuse)
			s, _ := scribe.Start(f)
			m := newModel()
			next := m
			for _, c := range calls {
				n, e := c.on(s)
				if f.Lost() {
					next = m.clone() // with the call during which it was lost
					c.on(next)
					break
				}
				if want, _ := c.on(m.clone()); e == scribe.OK && n == want {
					c.on(m)
				}
			}
			f.Power([]int{quota})
			s, e := scribe.Start(f)
			if s == nil && e == scribe.ErrFull {
				continue
			}
			if got := seen(s, scriptDocs, scriptClients); got != seen(m, scriptDocs, scriptClients) && got != seen(next, scriptDocs, scriptClients) {
				t.Fatalf("within %d bytes, power fails behind %d steps: then it serves\n%s", quota, fuse, got)
			}
		}
	}
}

// P1, P7: files of any bytes are nothing that Start breaks on, and what is done behind them stands.
func TestAnyFiles(t *testing.T) {
	_, _, good := served(t, append(script(), crowded()...)[:20], -1)
	name := good.Names()[0]
	data, _ := good.Read(name)
	r := rand.New(rand.NewSource(1))
	try := func(bytes string) {
		t.Helper()
		f := files.New(0)
		f.Create(name)
		f.Append(name, bytes)
		f.Create("another")
		f.Append("another", bytes)
		s := startServer(t, f)
		e := s.Make("mine")
		s.Submit("mine", 1, "mine", 0, ch(add("x")))
		all, clients := append(scriptDocs, "mine", "some"), append(scriptClients, "mine")
		want := seen(s, all, clients)
		f.Power(nil)
		if got := seen(startServer(t, f), all, clients); got != want {
			t.Fatalf("over %q (Make: %d) it serves first\n%s\nthen\n%s", bytes, e, want, got)
		}
	}
	for i := range len(data) {
		try(data[:i])
		try(data[i:])
		for range 3 {
			try(data[:i] + string(rune(r.Intn(128))) + data[i+r.Intn(2):])
		}
	}
	for _, piece := range []string{"\n", ".", " ", `"`, "=", "-", "0", "a", "\xff", "\nd a=9223372036854775807.", "\nd a=99999999999999999999.", "\nd a-1.", "\nd a\"\".", "\nd a'x'.", "\nd a`x`.", "\nabcdefg.", "\nd abcdefg.", "\nd a=0.", "\n a.", "\nd a\"x\"=1\"y\".", "\nd a=1=1.."} {
		for _, n := range []int{1, 2, 100} {
			try(strings.Repeat(piece, n))
			try(data + strings.Repeat(piece, n))
			try(strings.Repeat(piece, n) + data)
		}
	}
}

// P11: clients and a server come together: over answers that get lost, changes that are sent again, and power that is lost.
func TestComeTogether(t *testing.T) {
	losses, revs := 0, 0
	for seed := range int64(300) {
		r := rand.New(rand.NewSource(seed))
		f := files.New(0)
		s := startServer(t, f)
		s.Make("d")
		n := 1 + int(seed)%4
		var clients []*scribe.Client
		for i := range n {
			clients = append(clients, newClient(t, clientName(i), "", 0))
		}
		back := func() {
			if f.Lost() {
				losses++
				f.Power([]int{r.Intn(30)})
				s = startServer(t, f)
			}
		}
		send := func(i int) {
			if l, seq, base, ok := clients[i].Send(); ok {
				if _, e := s.Submit(clientName(i), seq, "d", base, l); e != scribe.OK && !f.Lost() {
					t.Fatalf("seed %d: change %d of client %d: %d", seed, seq, i, e)
				}
				back()
			}
		}
		hear := func(i int) {
			l, e := s.Since("d", clients[i].Rev())
			if e != scribe.OK {
				t.Fatalf("seed %d: Since %d: %d", seed, clients[i].Rev(), e)
			}
			if len(l) > 0 {
				if e := clients[i].Hear(l[0]); e != scribe.OK {
					t.Fatalf("seed %d: client %d hears %v: %d", seed, i, l[0], e)
				}
			}
		}
		for range 80 {
			i := r.Intn(n)
			switch r.Intn(6) {
			case 0, 1:
				clients[i].Edit(randomChange(r, len(clients[i].Text())))
			case 2, 3:
				send(i)
			case 4:
				hear(i)
			case 5:
				if r.Intn(2) == 0 {
					f.Fuse(r.Intn(4))
				}
			}
		}
		f.Power(nil)
		s = startServer(t, f)
		for range 70 {
			for i := range n {
				send(i)
				hear(i)
			}
		}
		rev, _ := s.Rev("d")
		revs += rev
		want, _ := s.Text("d", rev)
		for i, c := range clients {
			if c.Text() != want || c.Rev() != rev || sent(c) != nothing {
				t.Fatalf("seed %d: client %d has %q at %d, want %q at %d", seed, i, c.Text(), c.Rev(), want, rev)
			}
		}
	}
	if losses < 300 || revs < 1500 {
		t.Errorf("only %d losses of power, and %d revisions", losses, revs)
	}
}
