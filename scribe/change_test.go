package scribe_test

import (
	"math"
	"slices"
	"strings"
	"testing"

	"scribe/scribe"
)

func keep(n int) scribe.Part    { return scribe.Part{Kind: scribe.Keep, N: n} }
func add(s string) scribe.Part  { return scribe.Part{Kind: scribe.Add, Text: s} }
func drop(n int) scribe.Part    { return scribe.Part{Kind: scribe.Drop, N: n} }
func ch(l ...scribe.Part) parts { return l }

type parts = []scribe.Part

const most = 1 << 62

// wrongParts are parts that no change has.
var wrongParts = []scribe.Part{
	{}, {Kind: 0, N: 1}, {Kind: 4, N: 1}, {Kind: -1, N: 1}, {Kind: math.MaxInt, Text: "x"}, {Kind: math.MinInt},
	{Kind: scribe.Keep}, {Kind: scribe.Keep, N: -1}, {Kind: scribe.Keep, N: math.MinInt}, {Kind: scribe.Keep, N: 1, Text: "x"}, {Kind: scribe.Keep, Text: "x"},
	{Kind: scribe.Drop}, {Kind: scribe.Drop, N: -1}, {Kind: scribe.Drop, N: math.MinInt}, {Kind: scribe.Drop, N: 1, Text: "x"}, {Kind: scribe.Drop, Text: "x"},
	{Kind: scribe.Add}, {Kind: scribe.Add, N: 1}, {Kind: scribe.Add, N: 1, Text: "x"}, {Kind: scribe.Add, N: -1, Text: "x"}, {Kind: scribe.Add, N: math.MinInt, Text: "x"},
}

// tooLong are changes that fit no text; the sums of some go round the range of int.
var tooLong = []parts{
	ch(keep(most), keep(1)), ch(drop(1), keep(most)), ch(keep(most + 1)), ch(drop(math.MaxInt)),
	ch(keep(math.MaxInt), keep(math.MaxInt), keep(2)), ch(drop(math.MaxInt), add("x"), keep(math.MaxInt), drop(3)),
	ch(keep(most), keep(most), keep(most), keep(most)), ch(keep(most), drop(most), keep(most), drop(most), keep(3)),
}

func TestNumbers(t *testing.T) {
	errs := []scribe.Errno{scribe.OK, scribe.ErrOp, scribe.ErrLength, scribe.ErrName, scribe.ErrTwice, scribe.ErrNone, scribe.ErrOld, scribe.ErrGap, scribe.ErrBase, scribe.ErrMany, scribe.ErrFull}
	for i, e := range errs {
		if int(e) != i {
			t.Errorf("error %d is %d", i, e)
		}
	}
	var kinds = []int{scribe.Keep, scribe.Add, scribe.Drop}
	if !slices.Equal(kinds, []int{1, 2, 3}) {
		t.Errorf("kinds: %v", kinds)
	}
}

// P1, P2: no change is told ahead of all that does not fit, wherever the wrong part is.
func TestNoChange(t *testing.T) {
	for _, p := range wrongParts {
		for _, l := range []parts{ch(p), ch(keep(1), p), ch(p, keep(1)), ch(add("x"), p, drop(2)), ch(keep(most), keep(most), p), ch(p, keep(math.MaxInt), keep(math.MaxInt))} {
			wantSingle(t, l, 1, "0", scribe.ErrOp)
			for _, other := range []parts{nil, ch(keep(1)), ch(keep(7)), ch(keep(most), keep(1)), l} {
				wantPair(t, l, other, scribe.ErrOp)
				wantPair(t, other, l, scribe.ErrOp)
			}
		}
	}
}

// P2 to P4: a change of more than 2^62 bytes fits no text, whatever its sum goes round to.
func TestTooLong(t *testing.T) {
	for _, l := range tooLong {
		sum := 0
		for _, p := range l {
			sum += p.N
		}
		for _, n := range []int{sum, 0, 1, -1, most, most + 1, math.MaxInt, math.MinInt} {
			if got, e := scribe.Fit(l, n); got != 0 || e != scribe.ErrLength {
				t.Errorf("Fit(%v, %d) = %d, %d, want ErrLength", l, n, got, e)
			}
		}
		wantSingle(t, l, 1, "0", scribe.ErrLength)
		for _, other := range append(slices.Clone(tooLong), nil, ch(keep(1)), ch(keep(most))) {
			wantPair(t, l, other, scribe.ErrLength)
			wantPair(t, other, l, scribe.ErrLength)
		}
	}
}

// wantSingle wants an error of all calls that take one change.
func wantSingle(t *testing.T, l parts, length int, text string, want scribe.Errno) {
	t.Helper()
	if n, e := scribe.Fit(l, length); n != 0 || e != want {
		t.Errorf("Fit(%v, %d) = %d, %d, want 0, %d", l, length, n, e, want)
	}
	if s, e := scribe.Short(l); s != nil || e != want {
		t.Errorf("Short(%v) = %v, %d, want nil, %d", l, s, e, want)
	}
	if s, e := scribe.Do(text, l); s != "" || e != want {
		t.Errorf("Do(%q, %v) = %q, %d, want nothing, %d", text, l, s, e, want)
	}
}

// wantPair wants an error of all calls that take two changes.
func wantPair(t *testing.T, a, b parts, want scribe.Errno) {
	t.Helper()
	if s, e := scribe.Join(a, b); s != nil || e != want {
		t.Errorf("Join(%v, %v) = %v, %d, want nil, %d", a, b, s, e, want)
	}
	if x, y, e := scribe.Turn(a, b); x != nil || y != nil || e != want {
		t.Errorf("Turn(%v, %v) = %v, %v, %d, want nil, nil, %d", a, b, x, y, e, want)
	}
}

// P2: Fit.
func TestFit(t *testing.T) {
	for _, c := range []struct {
		l            parts
		length, want int
		e            scribe.Errno
	}{
		{nil, 0, 0, scribe.OK}, {parts{}, 0, 0, scribe.OK}, {nil, 1, 0, scribe.ErrLength}, {nil, -1, 0, scribe.ErrLength},
		{ch(add("äx")), 0, 3, scribe.OK}, {ch(add("x")), 1, 0, scribe.ErrLength},
		{ch(keep(2), add("abc"), drop(3), keep(1)), 6, 6, scribe.OK}, {ch(keep(2), add("abc"), drop(3), keep(1)), 3, 0, scribe.ErrLength},
		{ch(drop(5)), 5, 0, scribe.OK}, {ch(drop(5)), -5, 0, scribe.ErrLength},
		{ch(keep(most)), most, most, scribe.OK}, {ch(keep(most-1), drop(1)), most, most - 1, scribe.OK}, {ch(drop(most)), most, 0, scribe.OK},
		{ch(keep(most), add("xy")), most, most + 2, scribe.OK}, {ch(keep(most)), math.MinInt, 0, scribe.ErrLength},
	} {
		if n, e := scribe.Fit(c.l, c.length); n != c.want || e != c.e {
			t.Errorf("Fit(%v, %d) = %d, %d, want %d, %d", c.l, c.length, n, e, c.want, c.e)
		}
	}
}

// P2: Short.
func TestShort(t *testing.T) {
	for _, c := range []struct{ l, want parts }{
		{nil, nil},
		{ch(keep(1), keep(2), keep(3)), ch(keep(6))},
		{ch(drop(1), add("x"), drop(2), add("y"), drop(3)), ch(add("xy"), drop(6))},
		{ch(add("x"), keep(1), add("y"), add("z")), ch(add("x"), keep(1), add("yz"))},
		{ch(keep(1), drop(1), add("x"), keep(1), drop(1), keep(1)), ch(keep(1), add("x"), drop(1), keep(1), drop(1), keep(1))},
		{ch(keep(most-2), drop(1), drop(1)), ch(keep(most-2), drop(2))},
		{ch(keep(most/2), keep(most/2)), ch(keep(most))},
		{ch(drop(most/2), add("a"), drop(most/2)), ch(add("a"), drop(most))},
	} {
		got, e := scribe.Short(c.l)
		if e != scribe.OK || !slices.Equal(got, c.want) {
			t.Errorf("Short(%v) = %v, %d, want %v", c.l, got, e, c.want)
		}
		again, e := scribe.Short(got)
		if e != scribe.OK || !slices.Equal(again, got) {
			t.Errorf("Short(%v) = %v, %d, want the same", got, again, e)
		}
	}
}

// P2: Do.
func TestDo(t *testing.T) {
	for _, c := range []struct {
		text string
		l    parts
		want string
		e    scribe.Errno
	}{
		{"", nil, "", scribe.OK}, {"", ch(add("new")), "new", scribe.OK}, {"a", nil, "", scribe.ErrLength}, {"", ch(keep(1)), "", scribe.ErrLength},
		{"hello", ch(keep(1), add("E"), drop(1), keep(3), add("!")), "hEllo!", scribe.OK},
		{"hello", ch(drop(1), add("J"), keep(4)), "Jello", scribe.OK},
		{"ä", ch(keep(1), drop(1)), "\xc3", scribe.OK}, {"\x00\xff", ch(drop(1), keep(1), add("\x00")), "\xff\x00", scribe.OK},
		{"abc", ch(keep(2)), "", scribe.ErrLength}, {"abc", ch(keep(3), drop(1)), "", scribe.ErrLength},
	} {
		if s, e := scribe.Do(c.text, c.l); s != c.want || e != c.e {
			t.Errorf("Do(%q, %v) = %q, %d, want %q, %d", c.text, c.l, s, e, c.want, c.e)
		}
	}
}

// P3: Join.
func TestJoin(t *testing.T) {
	for _, c := range []struct {
		a, b, want parts
		e          scribe.Errno
	}{
		{nil, nil, nil, scribe.OK},
		{ch(add("abc")), ch(drop(3)), nil, scribe.OK},
		{ch(add("abc")), ch(keep(1), drop(1), add("X"), keep(1)), ch(add("aXc")), scribe.OK},
		{ch(add("b")), ch(add("a"), keep(1), add("c")), ch(add("abc")), scribe.OK},
		{ch(keep(1), drop(2), keep(1)), ch(keep(1), add("x"), keep(1)), ch(keep(1), add("x"), drop(2), keep(1)), scribe.OK},
		{ch(keep(1), add("x"), keep(1)), ch(keep(1), drop(1), keep(1)), ch(keep(2)), scribe.OK},
		{ch(keep(2), drop(1)), ch(drop(2)), ch(drop(3)), scribe.OK},
		{ch(drop(1), add("x"), drop(1)), ch(add("y"), keep(1)), ch(add("yx"), drop(2)), scribe.OK},
		{ch(drop(most), add("x")), ch(keep(1)), ch(add("x"), drop(most)), scribe.OK},
		{ch(keep(most)), ch(drop(most), add("x")), ch(add("x"), drop(most)), scribe.OK},
		{ch(keep(most-1), drop(1)), ch(drop(most-2), keep(1)), ch(drop(most-2), keep(1), drop(1)), scribe.OK},
		{ch(keep(most), add("x")), ch(keep(most), keep(1)), nil, scribe.ErrLength}, // what a makes is fitted by none
		{ch(keep(3)), ch(keep(2)), nil, scribe.ErrLength}, {ch(add("xy")), nil, nil, scribe.ErrLength}, {nil, ch(keep(1)), nil, scribe.ErrLength},
	} {
		if s, e := scribe.Join(c.a, c.b); e != c.e || !slices.Equal(s, c.want) {
			t.Errorf("Join(%v, %v) = %v, %d, want %v, %d", c.a, c.b, s, e, c.want, c.e)
		}
	}
}

// P4: Turn.
func TestTurn(t *testing.T) {
	for _, c := range []struct {
		a, b, wantA, wantB parts
		e                  scribe.Errno
	}{
		{nil, nil, nil, nil, scribe.OK},
		{ch(add("aa")), ch(add("b")), ch(add("aa"), keep(1)), ch(keep(2), add("b")), scribe.OK},
		{ch(drop(3)), ch(drop(3)), nil, nil, scribe.OK},
		{ch(drop(2), keep(1)), ch(keep(1), drop(2)), ch(drop(1)), ch(drop(1)), scribe.OK},
		{ch(drop(2)), ch(keep(1), add("b"), keep(1)), ch(drop(1), keep(1), drop(1)), ch(add("b")), scribe.OK},
		// behind a Drop an Add counts as ahead of it
		{ch(drop(1), add("a")), ch(add("b"), keep(1)), ch(add("a"), keep(1), drop(1)), ch(keep(1), add("b")), scribe.OK},
		{ch(keep(1), add("a")), ch(drop(1), add("b")), ch(keep(1), add("a")), ch(add("b"), drop(1), keep(1)), scribe.OK},
		{ch(keep(most)), ch(drop(most), add("b")), ch(keep(1)), ch(add("b"), drop(most)), scribe.OK},
		{ch(add("a"), keep(most)), ch(keep(most)), ch(add("a"), keep(most)), ch(keep(most + 1)), scribe.OK},
		{ch(keep(2)), ch(keep(3)), nil, nil, scribe.ErrLength}, {nil, ch(drop(1)), nil, nil, scribe.ErrLength}, {ch(add("a"), keep(1)), ch(keep(2)), nil, nil, scribe.ErrLength},
	} {
		x, y, e := scribe.Turn(c.a, c.b)
		if e != c.e || !slices.Equal(x, c.wantA) || !slices.Equal(y, c.wantB) {
			t.Errorf("Turn(%v, %v) = %v, %v, %d, want %v, %v, %d", c.a, c.b, x, y, e, c.wantA, c.wantB, c.e)
		}
	}
}

// P1: lists that are handed in are not changed, and those that are answered are new memory.
func TestLists(t *testing.T) {
	calls := map[string]func(a, b parts) []parts{
		"Fit":   func(a, b parts) []parts { scribe.Fit(a, 4); return nil },
		"Do":    func(a, b parts) []parts { scribe.Do("0123", a); return nil },
		"Short": func(a, b parts) []parts { l, _ := scribe.Short(a); return []parts{l} },
		"Join":  func(a, b parts) []parts { l, _ := scribe.Join(a, b); return []parts{l} },
		"Turn":  func(a, b parts) []parts { x, y, _ := scribe.Turn(a, b); return []parts{x, y} },
	}
	pairs := [][2]parts{
		{ch(keep(4)), ch(keep(4))},
		{ch(keep(1), add("x"), drop(1), keep(2)), ch(keep(2), add("y"), drop(1), keep(1))},
		{ch(drop(1), add("x"), keep(1), keep(1), drop(1), add("y")), ch(drop(2), add("z"), keep(1), keep(1))},
	}
	for name, call := range calls {
		for _, p := range pairs {
			// spare room behind a list must not be written either
			a, b := append(slices.Clone(p[0]), add("behind a")), append(slices.Clone(p[1]), add("behind b"))
			handA, handB := a[:len(p[0])], b[:len(p[1])]
			first := call(handA, handB)
			var before []parts
			for _, l := range first {
				before = append(before, slices.Clone(l))
			}
			for _, l := range first {
				spoil(l)
			}
			if !slices.Equal(a, append(slices.Clone(p[0]), add("behind a"))) || !slices.Equal(b, append(slices.Clone(p[1]), add("behind b"))) {
				t.Errorf("%s(%v, %v) changed what was handed in, or answered it: %v, %v", name, p[0], p[1], a, b)
			}
			for i, l := range call(handA, handB) {
				if !slices.Equal(l, before[i]) {
					t.Errorf("%s(%v, %v): list %d is %v, then %v", name, p[0], p[1], i, before[i], l)
				}
			}
		}
	}
	x, y, _ := scribe.Turn(ch(keep(4)), ch(keep(4)))
	spoil(x)
	if !slices.Equal(y, ch(keep(4))) {
		t.Errorf("Turn: the second list shares memory with the first: %v", y)
	}
}

// spoil overwrites a list and the room behind it.
func spoil(l parts) {
	l = l[:cap(l)]
	for i := range l {
		l[i] = scribe.Part{Kind: -7, N: -7, Text: "spoilt"}
	}
}

// P1: long lists; a call that took its time by the square of their length would not end here.
func TestLongLists(t *testing.T) {
	const n = 1 << 20
	var adds, keeps, drops, mix parts
	for range n {
		adds = append(adds, add("x"))
		keeps = append(keeps, keep(1))
		drops = append(drops, drop(1))
		mix = append(mix, drop(1), add("y"))
	}
	text := strings.Repeat("x", n)
	for _, c := range []struct {
		name string
		l    parts
		want parts
	}{
		{"adds", adds, ch(add(text))}, {"keeps", keeps, ch(keep(n))}, {"drops", drops, ch(drop(n))},
		{"mix", mix, ch(add(strings.Repeat("y", n)), drop(n))},
	} {
		if got, e := scribe.Short(c.l); e != scribe.OK || !slices.Equal(got, c.want) {
			t.Errorf("Short of %d %s: %d parts, %d", n, c.name, len(got), e)
		}
	}
	if s, e := scribe.Do(text, mix); s != strings.Repeat("y", n) || e != scribe.OK {
		t.Errorf("Do: %d bytes, %d", len(s), e)
	}
	if l, e := scribe.Join(adds, drops); l != nil || e != scribe.OK {
		t.Errorf("Join: %d parts, %d", len(l), e)
	}
	if l, e := scribe.Join(ch(add(text)), keeps); !slices.Equal(l, ch(add(text))) || e != scribe.OK {
		t.Errorf("Join of an Add and many Keeps: %d parts, %d", len(l), e)
	}
	x, y, e := scribe.Turn(mix, keeps)
	if !slices.Equal(x, ch(add(strings.Repeat("y", n)), drop(n))) || !slices.Equal(y, ch(keep(n))) || e != scribe.OK {
		t.Errorf("Turn: %d and %d parts, %d", len(x), len(y), e)
	}
}
