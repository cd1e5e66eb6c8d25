package scribe_test

import (
	"fmt"
	"math"
	"math/rand"
	"slices"
	"strings"
	"testing"

	"scribe/files"
	"scribe/scribe"
)

// both does a call on a server and on the model, and wants one answer of both.
func both(t *testing.T, c call, s *scribe.Server, m *modelServer) {
	t.Helper()
	n, e := c.on(s)
	if want, wantE := c.on(m); n != want || e != wantE {
		t.Fatalf("%v: %d, %d, want %d, %d", c, n, e, want, wantE)
	}
}

// P7: a server over empty files has nothing, and each one behind it what the last one had.
func TestStart(t *testing.T) {
	f := files.New(0)
	docs, clients := []string{"d", "e"}, []string{"me", "you"}
	m := newModel()
	for range 3 {
		alike(t, "over empty files", startServer(t, f), m, docs, clients)
	}
	for _, c := range []call{{doc: "d"}, {"me", 1, "d", 0, ch(add("x"))}, {doc: "e"}, {"you", 1, "e", 0, nil}, {"me", 2, "e", 1, ch(add("y"))}, {"you", 2, "d", 0, ch(add("z"))}} {
		s := startServer(t, f)
		both(t, c, s, m)
		alike(t, "the same server", s, m, docs, clients)
		alike(t, "the next one", startServer(t, f), m, docs, clients)
	}
}

// P7, P10: what a server holds stands for good from its start on, though nobody synced it ahead of that.
func TestStartSyncs(t *testing.T) {
	_, m, f := served(t, script(), -1)
	other := files.New(0)
	for _, name := range f.Names() {
		data, _ := f.Read(name)
		other.Create(name)
		other.Append(name, data)
	}
	alike(t, "over a copy", startServer(t, other), m, scriptDocs, scriptClients)
	other.Power(nil)
	alike(t, "behind a loss of power", startServer(t, other), m, scriptDocs, scriptClients)
}

var noNames = []string{"", "abcdefg", "A", "a1", "a b", "a\n", "\na", "é", "\xff", "a.", `"`, strings.Repeat("a", 1<<20)}

// P7: Make.
func TestMake(t *testing.T) {
	six := []string{"a", "zzzzzz", "b", "me", "cd", "last"}
	s := startServer(t, files.New(0))
	for i, doc := range six {
		for _, wrong := range noNames {
			if e := s.Make(wrong); e != scribe.ErrName {
				t.Errorf("Make(%.9q) = %d, want ErrName", wrong, e)
			}
		}
		if _, e := s.Rev(doc); e != scribe.ErrNone {
			t.Errorf("%s is there: %d", doc, e)
		}
		if e := s.Make(doc); e != scribe.OK {
			t.Errorf("Make(%q) = %d", doc, e)
		}
		for _, again := range six[:i+1] {
			if e := s.Make(again); e != scribe.ErrTwice {
				t.Errorf("Make(%q) = %d, want ErrTwice", again, e)
			}
			if n, e := s.Rev(again); n != 0 || e != scribe.OK {
				t.Errorf("Rev(%q) = %d, %d", again, n, e)
			}
		}
	}
}

// served is a server that was asked all this, with room for so many more bytes (below 0: for any), and the model that it is like.
func served(t *testing.T, calls []call, room int) (*scribe.Server, *modelServer, *files.Files) {
	t.Helper()
	f := files.New(0)
	s, m := startServer(t, f), newModel()
	for _, c := range calls {
		both(t, c, s, m)
	}
	if room < 0 {
		return s, m, f
	}
	tight := files.New(sizeOf(f) + room)
	s = startServer(t, tight)
	for _, c := range calls {
		if _, e := c.on(s); e != scribe.OK {
			t.Fatalf("%v does not go into as many bytes as it takes: %d", c, e)
		}
	}
	return s, m, tight
}

// P7, P1: a name comes ahead of a second document of that name, that ahead of too many, and that ahead of full files.
func TestMakeErrorsInOrder(t *testing.T) {
	var calls []call
	for i := range 6 {
		calls = append(calls, call{doc: clientName(i)})
		s, _, f := served(t, calls, 0)
		before := bytesOf(f)
		more := scribe.ErrFull
		if len(calls) == 6 {
			more = scribe.ErrMany
		}
		for doc, want := range map[string]scribe.Errno{"X": scribe.ErrName, "a": scribe.ErrTwice, "more": more} {
			if e := s.Make(doc); e != want {
				t.Errorf("with %d documents, Make(%q) = %d, want %d", i, doc, e, want)
			}
		}
		if _, e := s.Rev("more"); e != scribe.ErrNone || bytesOf(f) != before {
			t.Errorf("with %d documents, something was changed", i)
		}
	}
}

// crowded are calls behind which there are six clients, a document with all its revisions, and others.
func crowded() []call {
	calls := []call{{doc: "full"}, {doc: "some"}, {doc: "empty"}}
	seqs := map[string]int{}
	submit := func(client, doc string, base int, l ...scribe.Part) {
		seqs[client]++
		calls = append(calls, call{client, seqs[client], doc, base, l})
	}
	for i := range 60 {
		submit(clientName(i%6), "full", i, append(whole(i), add("x"))...)
	}
	for i := range 5 {
		submit(clientName(i%2), "some", i, append(whole(3*i), add("yz"), add("z"))...)
	}
	return calls
}

// P8, P1: all that can be wrong with a change, in all ways together: the error that the document names first is answered, and nothing changes.
func TestSubmitErrorsInOrder(t *testing.T) {
	docs, clients := []string{"full", "some", "empty", "none"}, []string{"a", "b", "c", "newone"}
	for _, room := range []int{0, 1, 1 << 20} {
		s, m, f := served(t, crowded(), room)
		before, inFiles := seen(m, docs, clients), bytesOf(f)
		for _, client := range []string{"a", "c", "newone", "A", "toolong"} {
			for _, doc := range []string{"some", "full", "empty", "none", "", "D"} {
				for _, seq := range []int{math.MinInt, -1, 0, 1, m.last[client] - 1, m.last[client], m.last[client] + 1, m.last[client] + 2, math.MaxInt} {
					for _, base := range []int{0, 1, 5, 6, -1, 60, 61, math.MinInt, math.MaxInt} {
						for _, l := range []parts{nil, ch(add("x")), ch(keep(3)), ch(keep(15)), ch(keep(60)), ch(keep(3), scribe.Part{}), ch(scribe.Part{Kind: 4, N: 1}), tooLong[0]} {
							c := call{client, seq, doc, base, l}
							want, wantE := c.on(m.clone())
							if wantE == scribe.OK && seq != m.last[client] { // it would be taken
								if room > 9 {
									continue
								}
								want, wantE = 0, scribe.ErrFull
							}
							if n, e := c.on(s); n != want || e != wantE {
								t.Fatalf("%v: %d, %d, want %d, %d", c, n, e, want, wantE)
							}
						}
					}
				}
			}
		}
		if got := seen(s, docs, clients); got != before || bytesOf(f) != inFiles {
			t.Errorf("with room for %d bytes, something was changed: %s", room, got)
		}
	}
}

func (m *modelServer) clone() *modelServer {
	out := newModel()
	for doc, l := range m.docs {
		out.docs[doc] = slices.Clone(l)
	}
	for client, n := range m.last {
		out.last[client], out.made[client] = n, m.made[client]
	}
	return out
}

// P8: limits: sixty revisions of a document, and six clients, of which each may go on.
func TestLimits(t *testing.T) {
	f := files.New(0)
	s := startServer(t, f)
	s.Make("d")
	s.Make("e")
	submit := func(client string, seq int, doc string, want int, wantE scribe.Errno) {
		t.Helper()
		if n, e := s.Submit(client, seq, doc, 0, nil); n != want || e != wantE {
			t.Fatalf("Submit(%q, %d, %q) = %d, %d, want %d, %d", client, seq, doc, n, e, want, wantE)
		}
	}
	for i := range 60 {
		submit(clientName(i%6), i/6+1, "d", i+1, scribe.OK)
		if i >= 5 {
			submit("g", 1, "d", 0, scribe.ErrMany)
			submit("g", 1, "e", 0, scribe.ErrMany)
		}
		if i == 30 {
			s = startServer(t, f)
		}
	}
	for range 2 {
		for i := range 6 {
			submit(clientName(i), 11, "d", 0, scribe.ErrMany)
			submit(clientName(i), 10, "d", 55+i, scribe.OK)
			submit(clientName(i), 10, "e", 55+i, scribe.OK)
			submit(clientName(i), 9, "d", 0, scribe.ErrOld)
			submit(clientName(i), 12, "d", 0, scribe.ErrGap)
		}
		s = startServer(t, f)
	}
	submit("a", 11, "e", 1, scribe.OK)
	submit("a", 11, "d", 1, scribe.OK)
	submit("g", 1, "e", 0, scribe.ErrMany)
}

// P8: a change that is sent again, late, early and out of turn is taken once, by whichever server.
func TestSentAgain(t *testing.T) {
	f := files.New(0)
	s := startServer(t, f)
	s.Make("d")
	s.Make("e")
	for i, c := range []struct {
		call
		want int
		e    scribe.Errno
	}{
		{call{"me", 2, "d", 0, ch(add("early"))}, 0, scribe.ErrGap},
		{call{"me", 1, "d", 0, ch(add("one"))}, 1, scribe.OK},
		{call{"me", 1, "d", 0, ch(add("one"))}, 1, scribe.OK},
		{call{"you", 1, "d", 0, ch(add("two"))}, 2, scribe.OK},
		{call{"me", 1, "d", 0, ch(add("one"))}, 1, scribe.OK},
		{call{"me", 1, "e", -5, ch(scribe.Part{})}, 1, scribe.OK}, // whatever the rest is
		{call{"me", 1, "none", 0, nil}, 0, scribe.ErrNone},
		{call{"Me", 1, "d", 0, nil}, 0, scribe.ErrName},
		{call{"me", 3, "d", 1, ch(keep(3))}, 0, scribe.ErrGap},
		{call{"me", 2, "d", 1, ch(keep(3), add("!"))}, 3, scribe.OK},
		{call{"me", 1, "d", 0, ch(add("one"))}, 0, scribe.ErrOld},
		{call{"you", 1, "d", 9, nil}, 2, scribe.OK},
		{call{"you", 2, "e", 0, ch(add("there"))}, 1, scribe.OK},
		{call{"you", 2, "d", 0, nil}, 1, scribe.OK},
		{call{"you", 1, "d", 0, nil}, 0, scribe.ErrOld},
		{call{"me", 3, "e", 1, ch(keep(5))}, 2, scribe.OK},
		{call{"me", 2, "d", 1, nil}, 0, scribe.ErrOld},
		{call{"me", 3, "d", 1, nil}, 2, scribe.OK},
		{call{"me", 0, "d", 0, nil}, 0, scribe.ErrOld},
		{call{"new", 0, "d", 0, nil}, 0, scribe.ErrOld},
		{call{"new", -1, "d", 0, nil}, 0, scribe.ErrOld},
		{call{"new", 2, "d", 0, nil}, 0, scribe.ErrGap},
	} {
		for range 2 { // what is refused is refused again, what is taken is answered again
			if n, e := c.on(s); n != c.want || e != c.e {
				t.Fatalf("step %d: %v: %d, %d, want %d, %d", i, c.call, n, e, c.want, c.e)
			}
			if i%3 == 0 {
				s = startServer(t, f)
			}
		}
	}
	for doc, want := range map[string]string{"d": "onetwo! 3 0", "e": "there 2 0"} {
		n, e := s.Rev(doc)
		text, _ := s.Text(doc, n)
		if got := fmt.Sprint(text, " ", n, int(e)); got != want {
			t.Errorf("%s: %s, want %s", doc, got, want)
		}
	}
}

// P8: a change is turned by all that came behind its base: what came earlier stands first at one place, and what is gone is not dropped twice.
func TestTurnedBySince(t *testing.T) {
	s := startServer(t, files.New(0))
	s.Make("d")
	for i, c := range []call{
		{"a", 1, "d", 0, ch(add("0123"), add("456789"))},
		{"b", 1, "d", 1, ch(keep(2), add("B"), keep(8))},
		{"c", 1, "d", 1, ch(keep(2), add("C"), drop(3), keep(5))},
		{"d", 1, "d", 1, ch(keep(2), drop(2), add("D"), drop(3), keep(3))},
		{"e", 1, "d", 2, ch(keep(2), drop(1), keep(8))},
		{"f", 1, "d", 0, ch(add("F"))},
		{"a", 2, "d", 5, ch(keep(7))},
	} {
		if n, e := c.on(s); n != i+1 || e != scribe.OK {
			t.Fatalf("%v: %d, %d", c, n, e)
		}
	}
	want := "[{a [{2 0 0123456789}]} {b [{1 2 } {2 0 B} {1 8 }]} {c [{1 3 } {2 0 C} {3 3 } {1 5 }]} {d [{1 4 } {2 0 D} {3 2 } {1 3 }]} {e [{1 2 } {3 1 } {1 5 }]} {f [{1 7 } {2 0 F}]} {a [{1 8 }]}]"
	if l, e := s.Since("d", 0); fmt.Sprint(l) != want || e != scribe.OK {
		t.Errorf("Since: %v, %d, want %s", l, e, want)
	}
	for rev, want := range []string{"", "0123456789", "01B23456789", "01BC56789", "01BCD789", "01CD789", "01CD789F", "01CD789F"} {
		if text, e := s.Text("d", rev); text != want || e != scribe.OK {
			t.Errorf("Text of %d: %q, %d, want %q", rev, text, e, want)
		}
	}
}

// P9: Rev, Text and Since of what is not there.
func TestAskForNone(t *testing.T) {
	s := startServer(t, files.New(0))
	s.Make("d")
	s.Submit("me", 1, "d", 0, ch(add("x")))
	for _, doc := range append(noNames, "e", "dd") {
		for _, rev := range []int{0, 1, -1, math.MaxInt, math.MinInt} {
			n, e := s.Rev(doc)
			text, e2 := s.Text(doc, rev)
			l, e3 := s.Since(doc, rev)
			if n != 0 || text != "" || l != nil || e != scribe.ErrNone || e2 != e || e3 != e {
				t.Errorf("%.9q, %d: %d, %d; %q, %d; %v, %d; want ErrNone", doc, rev, n, e, text, e2, l, e3)
			}
		}
	}
	for _, rev := range []int{-1, 2, math.MaxInt, math.MinInt} {
		text, e := s.Text("d", rev)
		l, e2 := s.Since("d", rev)
		if text != "" || l != nil || e != scribe.ErrBase || e2 != e {
			t.Errorf("%d: %q, %d; %v, %d; want ErrBase", rev, text, e, l, e2)
		}
	}
	if l, e := s.Since("d", 1); len(l) != 0 || e != scribe.OK {
		t.Errorf("behind the last revision: %v, %d", l, e)
	}
}

// P1: lists that are handed in are neither changed nor kept, and those that are answered are new memory.
func TestServerLists(t *testing.T) {
	s := startServer(t, files.New(0))
	s.Make("d")
	hand := func(seq int, l ...scribe.Part) {
		t.Helper()
		with := append(slices.Clone(l), add("behind"))
		if n, e := s.Submit("me", seq, "d", seq-1, with[:len(l)]); n != seq || e != scribe.OK {
			t.Fatalf("%v: %d, %d", l, n, e)
		}
		if !slices.Equal(with, append(slices.Clone(l), add("behind"))) {
			t.Errorf("%v was changed: %v", l, with)
		}
		spoil(with)
	}
	hand(1, add("abc"))
	hand(2, keep(1), drop(1), keep(1), add("d"))
	hand(3, add("e"), keep(3))
	const want = "[{me [{2 0 abc}]} {me [{1 1 } {3 1 } {1 1 } {2 0 d}]} {me [{2 0 e} {1 3 }]}]"
	for range 2 {
		l, _ := s.Since("d", 0)
		if fmt.Sprint(l) != want {
			t.Errorf("%v, want %s", l, want)
		}
		for i := range l {
			spoil(append(l[i].Change, add("more")))
			spoil(l[i].Change)
			l[i].Client = "spoilt"
		}
	}
	if text, _ := s.Text("d", 3); text != "eacd" {
		t.Errorf("%q", text)
	}
}

// P1: servers over files of their own share nothing.
func TestServersApart(t *testing.T) {
	one, other := startServer(t, files.New(0)), startServer(t, files.New(0))
	one.Make("d")
	one.Submit("me", 1, "d", 0, nil)
	alike(t, "the other", other, newModel(), []string{"d"}, []string{"me"})
	other.Make("d")
	if n, e := other.Submit("me", 1, "d", 0, ch(add("x"))); n != 1 || e != scribe.OK {
		t.Errorf("the other: %d, %d", n, e)
	}
	if text, e := one.Text("d", 1); text != "" || e != scribe.OK {
		t.Errorf("the first: %q, %d", text, e)
	}
}

// P1: no files, and no server, as Start answers with an error, are nothing that a call breaks on.
func TestNoServer(t *testing.T) {
	none, e := scribe.Start(nil)
	if none != nil || e != scribe.ErrFull {
		t.Errorf("Start without files: %v, %d", none, e)
	}
	for _, s := range []*scribe.Server{none, {}} {
		if e := s.Make("A"); e != scribe.ErrName {
			t.Errorf("Make: %d", e)
		}
		if e := s.Make("d"); e != scribe.ErrFull {
			t.Errorf("Make: %d", e)
		}
		if n, e := s.Submit("A", 1, "d", 0, nil); n != 0 || e != scribe.ErrName {
			t.Errorf("Submit: %d, %d", n, e)
		}
		alike(t, "no server", s, newModel(), []string{"d"}, []string{"me"})
	}
}

// P8, P9: long ways of calls, many of them refused, told by the model; another server goes on now and then.
func TestServerByModel(t *testing.T) {
	docs, clients := []string{"d", "e", "f"}, []string{"a", "b", "me"}
	for seed := range int64(25) {
		r := rand.New(rand.NewSource(seed))
		f := files.New(0)
		s, m := startServer(t, f), newModel()
		for range 80 {
			both(t, randomCall(r, m, docs, clients), s, m)
			if r.Intn(10) == 0 {
				alike(t, fmt.Sprint("seed ", seed), s, m, docs, clients)
				s = startServer(t, f)
			}
		}
		alike(t, fmt.Sprint("seed ", seed), s, m, docs, clients)
		alike(t, fmt.Sprint("seed ", seed), startServer(t, f), m, docs, clients)
	}
}

// P8, P9: Texts of all bytes, of the marks that a log may use, and long ones, come back from the files.
func TestAnyText(t *testing.T) {
	var every []byte
	for i := range 256 {
		every = append(every, byte(i), byte(255-i))
	}
	texts := []string{string(every), "\n", ".", "\n.", `"`, `\`, `\"`, `"."`, "a.\nb c\"x\".\n", "é€\u2028\ufffd\U0010ffff", "\xc3", strings.Repeat("long\n", 1<<16)}
	f := files.New(0)
	s := startServer(t, f)
	s.Make("d")
	var all string
	for i, text := range texts {
		if n, e := s.Submit("me", i+1, "d", i, append(whole(len(all)), add(text))); n != i+1 || e != scribe.OK {
			t.Fatalf("%.20q: %d, %d", text, n, e)
		}
		all += text
	}
	for range 2 {
		if text, e := s.Text("d", len(texts)); text != all || e != scribe.OK {
			t.Errorf("%.2000q, %d", text, e)
		}
		s = startServer(t, f)
	}
}

// P1: long lists.
func TestServerLongLists(t *testing.T) {
	const n = 1 << 16
	var adds, mix parts
	for range n {
		adds = append(adds, add("x"))
		mix = append(mix, keep(1), add("y"))
	}
	f := files.New(0)
	s := startServer(t, f)
	s.Make("d")
	for i, c := range []call{{"a", 1, "d", 0, adds}, {"b", 1, "d", 1, mix}, {"c", 1, "d", 1, mix}} {
		if k, e := c.on(s); k != i+1 || e != scribe.OK {
			t.Fatalf("change %d: %d, %d", i, k, e)
		}
	}
	for range 2 {
		if text, e := s.Text("d", 3); text != strings.Repeat("xyy", n) || e != scribe.OK {
			t.Errorf("%d bytes, %d", len(text), e)
		}
		s = startServer(t, f)
	}
}
