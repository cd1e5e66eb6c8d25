package scribe

import "errors"

// What can go wrong inside; the face makes an Errno of it.
var (
	errNoChange = errors.New("this is no change")
	errNoFit    = errors.New("this change does not fit")
)

// trouble tells where or how something went wrong, and wraps what it was.
type trouble struct {
	where string
	cause error
}

func (t *trouble) Error() string { return t.where + ": " + t.cause.Error() }

func (t *trouble) Unwrap() error { return t.cause }

// number is what the face answers for what went wrong inside.
func number(err error) Errno {
	switch {
	case err == nil:
		return OK
	case errors.Is(err, errNoChange):
		return ErrOp
	default:
		return ErrLength
	}
}
