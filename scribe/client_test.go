package scribe_test

import (
	"fmt"
	"math"
	"math/rand"
	"slices"
	"strings"
	"testing"

	"scribe/scribe"
)

func newClient(t *testing.T, name, text string, rev int) *scribe.Client {
	t.Helper()
	c, e := scribe.NewClient(name, text, rev)
	if c == nil || e != scribe.OK {
		t.Fatalf("NewClient(%q, %q, %d) = %v, %d", name, text, rev, c, e)
	}
	return c
}

func entry(who string, l ...scribe.Part) scribe.Entry {
	return scribe.Entry{Client: who, Change: l}
}

// sent tells all that Send answers.
func sent(c *scribe.Client) string {
	l, n, base, ok := c.Send()
	return fmt.Sprint(l, n, base, ok)
}

// whole is the change that keeps all of n bytes.
func whole(n int) parts {
	if n == 0 {
		return nil
	}
	return ch(keep(n))
}

const nothing = "[] 0 0 false"

// P5: NewClient; the name is looked at ahead of the revision.
func TestNewClient(t *testing.T) {
	for _, name := range []string{"a", "z", "me", "abcdef", "zzzzzz"} {
		for _, rev := range []int{0, 1, 60, math.MaxInt} {
			c := newClient(t, name, "some text", rev)
			if c.Text() != "some text" || c.Rev() != rev {
				t.Errorf("%s: %q at %d, want the text at %d", name, c.Text(), c.Rev(), rev)
			}
			if s := sent(c); s != nothing {
				t.Errorf("%s sends %s without an edit", name, s)
			}
		}
		for _, rev := range []int{-1, math.MinInt} {
			if c, e := scribe.NewClient(name, "", rev); c != nil || e != scribe.ErrBase {
				t.Errorf("NewClient(%q, .., %d) = %v, %d, want ErrBase", name, rev, c, e)
			}
		}
	}
	for _, name := range []string{"", "abcdefg", "A", "aZ", "a1", "a b", " a", "a\n", "`", "{", "é", "aé", "\xff", "a\x00", "ſ", strings.Repeat("a", 1<<20)} {
		for _, rev := range []int{0, -1} {
			if c, e := scribe.NewClient(name, "", rev); c != nil || e != scribe.ErrName {
				t.Errorf("NewClient(%.9q, .., %d) = %v, %d, want ErrName", name, rev, c, e)
			}
		}
	}
}

// P5: edits, and what Send makes of them.
func TestEditAndSend(t *testing.T) {
	c := newClient(t, "me", "hello", 4)
	edit := func(want string, l ...scribe.Part) {
		t.Helper()
		if e := c.Edit(l); e != scribe.OK || c.Text() != want || c.Rev() != 4 {
			t.Fatalf("Edit(%v) = %d, then %q at %d, want %q at 4", l, e, c.Text(), c.Rev(), want)
		}
	}
	send := func(want string) {
		t.Helper()
		for range 2 {
			if s := sent(c); s != want {
				t.Fatalf("Send: %s, want %s", s, want)
			}
		}
	}
	edit("hEllo", keep(1), drop(1), add("E"), keep(3))
	edit("hEll", keep(4), drop(1))
	send("[{1 1 } {2 0 E} {3 1 } {1 2 } {3 1 }] 1 4 true")
	edit("hEll!", keep(4), add("!"))
	edit("hEll", keep(4), drop(1))
	send("[{1 1 } {2 0 E} {3 1 } {1 2 } {3 1 }] 1 4 true")
	if e := c.Hear(entry("me")); e != scribe.OK || c.Text() != "hEll" || c.Rev() != 5 {
		t.Fatalf("hearing its own: %d, then %q at %d", e, c.Text(), c.Rev())
	}
	// the edits took one another back, but there were some
	send("[{1 4 }] 2 5 true")
	if e := c.Hear(entry("me")); e != scribe.OK || c.Rev() != 6 {
		t.Fatalf("hearing its own: %d, at %d", e, c.Rev())
	}
	send(nothing)
}

// P5: an edit that changes nothing is one, on an empty text, too.
func TestEmptyEdit(t *testing.T) {
	c := newClient(t, "me", "", 0)
	for i, l := range []parts{nil, {}, nil} {
		if e := c.Edit(l); e != scribe.OK {
			t.Fatalf("edit %d: %d", i, e)
		}
		if s, want := sent(c), fmt.Sprint("[] ", i+1, i, true); s != want {
			t.Fatalf("Send: %s, want %s", s, want)
		}
		if e := c.Hear(entry("me")); e != scribe.OK || sent(c) != nothing {
			t.Fatalf("hearing its own: %d, then it sends", e)
		}
	}
}

// P6: where both add at one place, what the other one added comes first, ahead of what is on its way and of the edits.
func TestOthersComeFirst(t *testing.T) {
	c := newClient(t, "me", "", 0)
	c.Edit(ch(add("way")))
	c.Send()
	c.Edit(ch(keep(3), add("edit")))
	for i, who := range []string{"you", "", "ME", "mee", "no name at all"} {
		if e := c.Hear(entry(who, append(whole(i), add(fmt.Sprint(i)))...)); e != scribe.OK || c.Rev() != i+1 {
			t.Fatalf("hearing %q: %d, at %d", who, e, c.Rev())
		}
	}
	if c.Text() != "01234wayedit" {
		t.Errorf("%q", c.Text())
	}
}

// P6: what is told has to fit the text of the client's revision, not the client's own.
func TestHearLength(t *testing.T) {
	c := newClient(t, "me", "abc", 0)
	hear := func(n int, want scribe.Errno) {
		t.Helper()
		if e := c.Hear(entry("you", keep(n))); e != want {
			t.Errorf("hearing a change of %d bytes at %q: %d, want %d", n, c.Text(), e, want)
		}
	}
	hear(3, scribe.OK)
	c.Edit(ch(keep(3), add("de")))
	hear(5, scribe.ErrLength)
	hear(3, scribe.OK)
	c.Send()
	c.Edit(ch(keep(4), drop(1)))
	hear(4, scribe.ErrLength)
	hear(5, scribe.ErrLength)
	hear(3, scribe.OK)
	c.Hear(entry("me"))
	hear(3, scribe.ErrLength)
	hear(4, scribe.ErrLength)
	hear(5, scribe.OK)
	if c.Text() != "abcd" || c.Rev() != 5 {
		t.Errorf("%q at %d", c.Text(), c.Rev())
	}
}

// P6: the last revision that there is a number for.
func TestManyRevisions(t *testing.T) {
	c := newClient(t, "me", "x", math.MaxInt-1)
	if e := c.Hear(entry("you", keep(1))); e != scribe.OK || c.Rev() != math.MaxInt {
		t.Errorf("%d at %d", e, c.Rev())
	}
	if e := c.Edit(ch(drop(1))); e != scribe.OK || sent(c) != fmt.Sprint("[{3 1 }] 1 ", math.MaxInt, " true") {
		t.Errorf("%d, then %s", e, sent(c))
	}
}

// P1: no client, as NewClient answers with an error, is none that a call breaks on.
func TestNoClient(t *testing.T) {
	c, _ := scribe.NewClient("", "text", 1)
	if e := c.Edit(ch(keep(1))); e != scribe.ErrName {
		t.Errorf("Edit: %d", e)
	}
	if e := c.Hear(entry("", keep(1))); e != scribe.ErrName {
		t.Errorf("Hear: %d", e)
	}
	if c.Text() != "" || c.Rev() != 0 || sent(c) != nothing {
		t.Errorf("%q at %d sends %s", c.Text(), c.Rev(), sent(c))
	}
}

// P1: lists that are handed in are neither changed nor kept, and those that are answered are new memory.
func TestClientLists(t *testing.T) {
	c := newClient(t, "me", "0123", 0)
	hand := func(do func(parts) scribe.Errno, l ...scribe.Part) {
		t.Helper()
		with := append(slices.Clone(l), add("behind"))
		if e := do(with[:len(l)]); e != scribe.OK {
			t.Fatalf("%v: %d", l, e)
		}
		if !slices.Equal(with, append(slices.Clone(l), add("behind"))) {
			t.Errorf("%v was changed: %v", l, with)
		}
		spoil(with)
	}
	send := func(want string) {
		t.Helper()
		for range 3 {
			l, n, base, ok := c.Send()
			if s := fmt.Sprint(l, n, base, ok); s != want {
				t.Errorf("Send: %s, want %s", s, want)
			}
			spoil(l)
		}
	}
	hear := func(l parts) scribe.Errno { return c.Hear(entry("you", l...)) }
	hand(hear, keep(4))
	hand(c.Edit, keep(4), add("a"))
	hand(hear, keep(4))
	send("[{1 4 } {2 0 a}] 1 2 true")
	hand(c.Edit, add("b"), keep(5))
	hand(c.Edit, keep(6), add("c"))
	hand(hear, keep(4), add("d"))
	hand(hear, keep(5))
	send("[{1 4 } {2 0 a}] 1 2 true")
	if e := c.Hear(entry("me")); e != scribe.OK || c.Text() != "b0123dac" {
		t.Errorf("%d, then %q", e, c.Text())
	}
	send("[{2 0 b} {1 6 } {2 0 c}] 2 5 true")
}

// P1: clients share nothing, whatever they were made of.
func TestClientsApart(t *testing.T) {
	one, other := newClient(t, "me", "x", 0), newClient(t, "me", "x", 0)
	one.Edit(ch(keep(1), add("y")))
	one.Send()
	copied := *one
	one.Edit(ch(drop(2)))
	one.Hear(entry("you", add("z"), keep(1)))
	if other.Text() != "x" || other.Rev() != 0 || sent(other) != nothing {
		t.Errorf("the other: %q at %d", other.Text(), other.Rev())
	}
	if copied.Text() != "xy" || copied.Rev() != 0 {
		t.Errorf("the copy: %q at %d", copied.Text(), copied.Rev())
	}
	if e := copied.Hear(entry("you", keep(1), add("w"))); e != scribe.OK || copied.Text() != "xwy" {
		t.Errorf("the copy: %d, then %q", e, copied.Text())
	}
}

// P1: long lists, and many edits.
func TestClientLongLists(t *testing.T) {
	const n = 1 << 18
	var adds, mix, keeps parts
	for range n {
		adds = append(adds, add("x"))
		mix = append(mix, drop(1), add("y"))
		keeps = append(keeps, keep(1))
	}
	c := newClient(t, "me", "", 0)
	if e := c.Edit(adds); e != scribe.OK {
		t.Fatal(e)
	}
	if l, _, _, _ := c.Send(); !slices.Equal(l, ch(add(strings.Repeat("x", n)))) {
		t.Errorf("Send: %d parts", len(l))
	}
	c.Hear(entry("me"))
	for _, l := range []parts{mix, keeps, mix} {
		if e := c.Edit(l); e != scribe.OK {
			t.Fatal(e)
		}
		if e := c.Hear(entry("you", keeps...)); e != scribe.OK {
			t.Fatal(e)
		}
	}
	if l, _, _, _ := c.Send(); !slices.Equal(l, ch(add(strings.Repeat("y", n)), drop(n))) {
		t.Errorf("Send: %d parts", len(l))
	}
}

// modelClient is the tests' own: it holds the text of the revision, and all changes behind it, made by the model of marked bytes alone.
type modelClient struct {
	server            string
	rev, seq, base    int
	onWay, edited     bool
	first, way, edits parts
}

// sentText is the text that what is on its way makes.
func (m *modelClient) sentText() string {
	if m.onWay {
		return modelDo(m.server, m.way)
	}
	return m.server
}

func (m *modelClient) text() string {
	if m.edited {
		return modelDo(m.sentText(), m.edits)
	}
	return m.sentText()
}

func (m *modelClient) edit(l parts) {
	n := len(m.sentText())
	if !m.edited {
		m.edits = whole(n)
	}
	m.edits, m.edited = modelJoin(n, m.edits, l), true
}

func (m *modelClient) send() string {
	if !m.onWay && m.edited {
		m.first, m.way, m.onWay = m.edits, m.edits, true
		m.edits, m.edited = nil, false
		m.seq++
		m.base = m.rev
	}
	if !m.onWay {
		return nothing
	}
	return fmt.Sprint(m.first, m.seq, m.base, true)
}

func (m *modelClient) hearOwn() {
	m.server, m.onWay = m.sentText(), false
	m.rev++
}

func (m *modelClient) hearOther(l parts) {
	m.server = modelDo(m.server, l)
	if m.onWay {
		l, m.way = modelTurn(l, m.way)
	}
	if m.edited {
		_, m.edits = modelTurn(l, m.edits)
	}
	m.rev++
}

// pair is a client, and the model that it must be like.
type pair struct {
	t       *testing.T
	c       *scribe.Client
	m       *modelClient
	r       *rand.Rand
	history []string
}

func newPair(t *testing.T, text string, rev int, seed int64) *pair {
	return &pair{t: t, c: newClient(t, "me", text, rev), m: &modelClient{server: text, rev: rev}, r: rand.New(rand.NewSource(seed))}
}

func (p *pair) want(what string, got, want any) {
	p.t.Helper()
	p.history = append(p.history, what)
	if fmt.Sprint(got) != fmt.Sprint(want) || p.c.Text() != p.m.text() || p.c.Rev() != p.m.rev {
		p.t.Fatalf("%s:\nanswered %v, then %q at %d\nwant %v, %q at %d", strings.Join(p.history, "\n"), got, p.c.Text(), p.c.Rev(), want, p.m.text(), p.m.rev)
	}
}

// step takes one of the four steps.
func (p *pair) step(kind int) {
	p.t.Helper()
	switch kind {
	case 0:
		l := randomChange(p.r, len(p.m.text()))
		p.m.edit(l)
		p.want(fmt.Sprintf("Edit %v", l), p.c.Edit(l), scribe.OK)
	case 1:
		p.want("Send", sent(p.c), p.m.send())
	case 2:
		l := randomChange(p.r, len(p.m.server))
		p.m.hearOther(l)
		p.want(fmt.Sprintf("Hear you %v", l), p.c.Hear(entry("you", l...)), scribe.OK)
	case 3:
		want := scribe.ErrOld
		if p.m.onWay {
			want = scribe.OK
			p.m.hearOwn()
		}
		p.want("Hear me", p.c.Hear(entry("me", wrongParts[p.r.Intn(len(wrongParts))])), want)
	}
}

// refusals are calls that leave the client as it was.
func (p *pair) refusals() {
	p.t.Helper()
	short, long := randomChange(p.r, len(p.m.text())), randomChange(p.r, len(p.m.server))
	wrong := wrongParts[p.r.Intn(len(wrongParts))]
	for _, l := range []parts{append(slices.Clone(short), keep(1)), append(slices.Clone(short), drop(3)), ch(keep(len(p.m.text())+1), drop(math.MaxInt), keep(math.MaxInt))} {
		p.want(fmt.Sprintf("Edit %v", l), p.c.Edit(l), scribe.ErrLength)
		l = append(l, wrong)
		p.want(fmt.Sprintf("Edit %v", l), p.c.Edit(l), scribe.ErrOp)
	}
	for _, l := range []parts{append(slices.Clone(long), keep(1)), append(slices.Clone(long), drop(3)), ch(keep(len(p.m.server)+1), drop(math.MaxInt), keep(math.MaxInt))} {
		p.want(fmt.Sprintf("Hear you %v", l), p.c.Hear(entry("you", l...)), scribe.ErrLength)
		l = append(l, wrong)
		p.want(fmt.Sprintf("Hear you %v", l), p.c.Hear(entry("you", l...)), scribe.ErrOp)
	}
	if !p.m.onWay {
		p.want("Hear me", p.c.Hear(entry("me", keep(len(p.m.server)))), scribe.ErrOld)
	}
}

// lay lets all that is hidden be seen: what is on its way, and the edits behind it.
func (p *pair) lay() {
	p.t.Helper()
	for _, kind := range []int{1, 2, 3, 1, 3, 1} {
		p.step(kind)
	}
}

// P5 and P6: steps in every order, refusals between them, told by the model.
func TestStepsInEveryOrder(t *testing.T) {
	const kinds, length = 4, 6
	orders := 1
	for range length {
		orders *= kinds
	}
	for order := range orders {
		p := newPair(t, textOf(order%7), order%3, int64(order))
		for i, left := 0, order; i < length; i, left = i+1, left/kinds {
			p.step(left % kinds)
			if order%5 == 0 { // (all orders would take long)
				p.refusals()
			}
		}
		p.lay()
	}
}

// P5 and P6: long ways of steps, told by the model.
func TestManySteps(t *testing.T) {
	for seed := range int64(30) {
		p := newPair(t, textOf(int(seed)), 0, seed)
		for range 100 {
			p.step(p.r.Intn(4))
			if p.r.Intn(4) == 0 {
				p.refusals()
			}
		}
		p.lay()
	}
}

// writing is one document as a server would number its changes, and the clients that write it.
type writing struct {
	t       *testing.T
	text    string
	entries []scribe.Entry
	clients []*scribe.Client
	taken   []int // of each client, the number of its last change
}

func (w *writing) submit(i int) {
	l, seq, base, ok := w.clients[i].Send()
	if !ok || seq == w.taken[i] {
		return
	}
	for _, e := range w.entries[base:] {
		_, turned, errno := scribe.Turn(e.Change, l)
		if errno != scribe.OK {
			w.t.Fatalf("change %d of client %d does not fit revision %d: %d", seq, i, base, errno)
		}
		l = turned
	}
	text, errno := scribe.Do(w.text, l)
	if errno != scribe.OK {
		w.t.Fatalf("change %d of client %d: %d", seq, i, errno)
	}
	w.text, w.taken[i] = text, seq
	w.entries = append(w.entries, entry(clientName(i), l...))
}

func (w *writing) tell(i int) {
	c := w.clients[i]
	if c.Rev() == len(w.entries) {
		return
	}
	if errno := c.Hear(w.entries[c.Rev()]); errno != scribe.OK {
		w.t.Fatalf("client %d at %d hears %v: %d", i, c.Rev(), w.entries[c.Rev()], errno)
	}
}

func clientName(i int) string { return string(rune('a' + i)) }

// P5 and P6: clients that write one text, and hear all of it, have it in the end.
func TestClientsComeTogether(t *testing.T) {
	for seed := range int64(300) {
		r := rand.New(rand.NewSource(seed))
		w := &writing{t: t}
		n := 1 + int(seed)%4
		for i := range n {
			w.clients = append(w.clients, newClient(t, clientName(i), "", 0))
			w.taken = append(w.taken, 0)
		}
		for range 60 {
			i := r.Intn(n)
			switch r.Intn(3) {
			case 0:
				w.clients[i].Edit(randomChange(r, len(w.clients[i].Text())))
			case 1:
				w.submit(i)
			case 2:
				w.tell(i)
			}
		}
		for range 60 + 2*n { // all that is there, and two changes more of each
			for i := range n {
				w.tell(i)
				w.submit(i)
			}
		}
		for i, c := range w.clients {
			if c.Text() != w.text || c.Rev() != len(w.entries) || sent(c) != nothing {
				t.Fatalf("seed %d: client %d has %q at %d, want %q at %d", seed, i, c.Text(), c.Rev(), w.text, len(w.entries))
			}
		}
	}
}
