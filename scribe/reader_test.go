package scribe

import (
	"errors"
	"testing"
)

func TestReader(t *testing.T) {
	r := read([]Part{{Kind: Keep, N: 5}, {Kind: Add, Text: "abc"}})
	for i, c := range []struct {
		ask  int
		want Part
		left int
		kind int
	}{
		{2, Part{Kind: Keep, N: 2}, 3, Keep},
		{9, Part{Kind: Keep, N: 3}, 3, Add},
		{1, Part{Kind: Add, Text: "a"}, 2, Add},
		{2, Part{Kind: Add, Text: "bc"}, 0, 0},
	} {
		if p := r.take(c.ask); p != c.want || r.left() != c.left || r.kind() != c.kind {
			t.Errorf("taking number %d: %v, then %d left of kind %d", i, p, r.left(), r.kind())
		}
	}
}

func TestTroubleWraps(t *testing.T) {
	err := error(&trouble{"outer", &trouble{"inner", errNoChange}})
	if !errors.Is(err, errNoChange) || errors.Is(err, errNoFit) || err.Error() != "outer: inner: this is no change" {
		t.Errorf("%v", err)
	}
	for err, want := range map[error]Errno{nil: OK, err: ErrOp, errNoFit: ErrLength, &trouble{"x", errNoFit}: ErrLength, errNoName: ErrName, errNoRevision: ErrBase, &trouble{"x", errOver}: ErrOld} {
		if number(err) != want {
			t.Errorf("%v is number %d, want %d", err, number(err), want)
		}
	}
	_, err = join([]Part{{Kind: Keep, N: 1}}, []Part{{Kind: Add, Text: "x"}, {Kind: 9}})
	if err == nil || err.Error() != "join: b: part 1: kind 9: this is no change" {
		t.Errorf("Join tells %v", err)
	}
	c, _ := newClient("me", "text", 0)
	if err := c.hear(Entry{Client: "you", Change: []Part{{Kind: Drop}}}); err == nil || err.Error() != "hear: do: fit: part 0: a Keep or Drop of no bytes: this is no change" {
		t.Errorf("Hear tells %v", err)
	}
}
