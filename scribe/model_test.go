package scribe_test

import (
	"fmt"
	"math/rand"
	"slices"
	"strings"
	"testing"

	"scribe/scribe"
)

// The tests' own way to the answers: a text is a list of bytes that know where they come from, so that what stays can be told from what is added anew.

type mark struct {
	from string // "text", or the change that added it
	at   int    // which byte of that
	b    byte
}

func marks(from, text string) []mark {
	var l []mark
	for i := range len(text) {
		l = append(l, mark{from, i, text[i]})
	}
	return l
}

func letters(l []mark) string {
	var s []byte
	for _, m := range l {
		s = append(s, m.b)
	}
	return string(s)
}

// done does a change to marked bytes.
func done(l []mark, change []scribe.Part, name string) []mark {
	var out []mark
	added := 0
	for _, p := range change {
		switch p.Kind {
		case scribe.Keep:
			out, l = append(out, l[:p.N]...), l[p.N:]
		case scribe.Drop:
			l = l[p.N:]
		case scribe.Add:
			for i := range len(p.Text) {
				out = append(out, mark{name, added, p.Text[i]})
				added++
			}
		}
	}
	return append(out, l...)
}

// between is the change, in short, that makes one list of marked bytes of another.
func between(from, to []mark) []scribe.Part {
	var out []scribe.Part
	var text []byte
	kept := 0 // bytes of from that are behind us
	settle := func(till int) {
		if len(text) > 0 {
			out = append(out, scribe.Part{Kind: scribe.Add, Text: string(text)})
		}
		if till > kept {
			out = append(out, scribe.Part{Kind: scribe.Drop, N: till - kept})
		}
		text, kept = nil, till
	}
	for _, m := range to {
		i := slices.Index(from, m)
		if i < 0 {
			text = append(text, m.b)
			continue
		}
		settle(i)
		if n := len(out); n > 0 && out[n-1].Kind == scribe.Keep {
			out[n-1].N++
		} else {
			out = append(out, scribe.Part{Kind: scribe.Keep, N: 1})
		}
		kept = i + 1
	}
	settle(len(from))
	return out
}

// effect is what a change adds at each place of a text, and which bytes it drops, by the document's words on changes in short.
func effect(change []scribe.Part, length int) (adds []string, drops []bool) {
	adds, drops = make([]string, length+1), make([]bool, length)
	place, at := 0, 0 // place: behind the last byte that is kept
	for _, p := range change {
		switch p.Kind {
		case scribe.Keep:
			at += p.N
			place = at
		case scribe.Drop:
			for range p.N {
				drops[at] = true
				at++
			}
		case scribe.Add:
			adds[place] += p.Text
		}
	}
	return adds, drops
}

// mixed is the text with what a adds and drops, and b, as far as they are asked for.
func mixed(text []mark, a, b []scribe.Part, withA, withB bool) []mark {
	addsA, dropsA := effect(a, len(text))
	addsB, dropsB := effect(b, len(text))
	var out []mark
	countA, countB := 0, 0
	for i := 0; i <= len(text); i++ {
		for _, c := range []byte(addsA[i]) {
			if withA {
				out = append(out, mark{"a", countA, c})
			}
			countA++
		}
		for _, c := range []byte(addsB[i]) {
			if withB {
				out = append(out, mark{"b", countB, c})
			}
			countB++
		}
		if i < len(text) && !(withA && dropsA[i]) && !(withB && dropsB[i]) {
			out = append(out, text[i])
		}
	}
	return out
}

// over is how many bytes of a text a change goes over, and makes how many it makes.
func over(change []scribe.Part) (over, makes int) {
	for _, p := range change {
		if p.Kind != scribe.Add {
			over += p.N
		}
		if p.Kind != scribe.Drop {
			makes += p.N + len(p.Text)
		}
	}
	return over, makes
}

func textOf(n int) string { return strings.Repeat("0123456789", n/10+1)[:n] }

// allLists are all lists of at most n parts out of a few.
func allLists(n int) [][]scribe.Part {
	parts := []scribe.Part{keep(1), keep(2), add("x"), add("yz"), drop(1), drop(2)}
	out := [][]scribe.Part{nil}
	for i := 0; i < len(out); i++ {
		if len(out[i]) == n {
			break
		}
		for _, p := range parts {
			out = append(out, append(slices.Clone(out[i]), p))
		}
	}
	return out
}

// randomChange is one that goes over n bytes.
func randomChange(r *rand.Rand, n int) []scribe.Part {
	var out []scribe.Part
	for n > 0 || r.Intn(3) == 0 {
		k := min(n, 1+r.Intn(4))
		switch {
		case k == 0 || r.Intn(3) == 0:
			out = append(out, add(strings.Repeat(string(rune('a'+r.Intn(26))), 1+r.Intn(3))))
			continue
		case r.Intn(2) == 0:
			out = append(out, keep(k))
		default:
			out = append(out, drop(k))
		}
		n -= k
	}
	return out
}

func modelDo(text string, change parts) string {
	return letters(done(marks("text", text), change, "a"))
}

func modelJoin(n int, a, b parts) parts {
	text := marks("text", textOf(n))
	return between(text, done(done(text, a, "a"), b, "b"))
}

func modelTurn(a, b parts) (parts, parts) {
	n, _ := over(a)
	text := marks("text", textOf(n))
	together := mixed(text, a, b, true, true)
	return between(mixed(text, a, b, false, true), together), between(mixed(text, a, b, true, false), together)
}

func checkJoin(t *testing.T, a, b []scribe.Part) {
	t.Helper()
	n, _ := over(a)
	want := modelJoin(n, a, b)
	got, e := scribe.Join(a, b)
	if e != scribe.OK || !slices.Equal(got, want) {
		t.Fatalf("Join(%v, %v) = %v, %d, want %v", a, b, got, e, want)
	}
}

func checkTurn(t *testing.T, a, b []scribe.Part) {
	t.Helper()
	wantA, wantB := modelTurn(a, b)
	x, y, e := scribe.Turn(a, b)
	if e != scribe.OK || !slices.Equal(x, wantA) || !slices.Equal(y, wantB) {
		t.Fatalf("Turn(%v, %v) = %v, %v, %d, want %v, %v", a, b, x, y, e, wantA, wantB)
	}
	n, _ := over(a)
	together := mixed(marks("text", textOf(n)), a, b, true, true)
	byA, e := scribe.Do(textOf(n), a)
	if e != scribe.OK {
		t.Fatalf("Do %v: %d", a, e)
	}
	if s, e := scribe.Do(byA, y); s != letters(together) || e != scribe.OK {
		t.Fatalf("%v, then %v: %q, %d, want %q", a, y, s, e, letters(together))
	}
}

// P2: every list of a few parts, told by the model.
func TestChangesByModel(t *testing.T) {
	for _, l := range allLists(4) {
		n, makes := over(l)
		text := marks("text", textOf(n))
		want := done(text, l, "a")
		if got, e := scribe.Fit(l, n); got != makes || e != scribe.OK {
			t.Fatalf("Fit(%v, %d) = %d, %d, want %d", l, n, got, e, makes)
		}
		for _, wrong := range []int{n - 1, n + 1, -n - 1} {
			if got, e := scribe.Fit(l, wrong); got != 0 || e != scribe.ErrLength {
				t.Fatalf("Fit(%v, %d) = %d, %d, want ErrLength", l, wrong, got, e)
			}
		}
		if got, e := scribe.Short(l); e != scribe.OK || !slices.Equal(got, between(text, want)) {
			t.Fatalf("Short(%v) = %v, %d, want %v", l, got, e, between(text, want))
		}
		if got, e := scribe.Do(letters(text), l); got != letters(want) || e != scribe.OK {
			t.Fatalf("Do(%q, %v) = %q, %d, want %q", letters(text), l, got, e, letters(want))
		}
		if got, e := scribe.Do(letters(text)+"!", l); got != "" || e != scribe.ErrLength {
			t.Fatalf("Do of a longer text, %v: %q, %d, want ErrLength", l, got, e)
		}
	}
}

// P3 and P4: every two lists of a few parts, told by the model.
func TestPairsByModel(t *testing.T) {
	l := allLists(3)
	for _, a := range l {
		overA, makesA := over(a)
		for _, b := range l {
			overB, _ := over(b)
			if makesA == overB {
				checkJoin(t, a, b)
			} else if got, e := scribe.Join(a, b); got != nil || e != scribe.ErrLength {
				t.Fatalf("Join(%v, %v) = %v, %d, want ErrLength", a, b, got, e)
			}
			if overA == overB {
				checkTurn(t, a, b)
			} else if x, y, e := scribe.Turn(a, b); x != nil || y != nil || e != scribe.ErrLength {
				t.Fatalf("Turn(%v, %v) = %v, %v, %d, want ErrLength", a, b, x, y, e)
			}
		}
	}
}

// P3 and P4: longer changes, and what they must have in common with what came ahead.
func TestLongerPairsByModel(t *testing.T) {
	r := rand.New(rand.NewSource(1))
	for range 5000 {
		n := r.Intn(30)
		a, b := randomChange(r, n), randomChange(r, n)
		checkTurn(t, a, b)
		_, makes := over(a)
		c := randomChange(r, makes)
		checkJoin(t, a, c)
		x, y, _ := scribe.Turn(a, b)
		one, _ := scribe.Join(a, y)
		other, _ := scribe.Join(b, x)
		if s, u := doneTo(textOf(n), one), doneTo(textOf(n), other); s != u {
			t.Fatalf("%v and %v: %q in one order, %q in the other", a, b, s, u)
		}
	}
}

func doneTo(text string, change []scribe.Part) string {
	s, e := scribe.Do(text, change)
	return fmt.Sprint(s, " ", e)
}
