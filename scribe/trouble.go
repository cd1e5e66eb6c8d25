package scribe

import "errors"

// What can go wrong inside; the face makes an Errno of it.
var (
	errNoChange   = errors.New("this is no change")
	errNoFit      = errors.New("this change does not fit")
	errNoName     = errors.New("this is no name")
	errNoRevision = errors.New("this is no revision")
	errOver       = errors.New("this is over")
	errTwice      = errors.New("there is one already")
	errNone       = errors.New("there is none")
	errGap        = errors.New("this is not the next")
	errMany       = errors.New("there are too many")
	errFull       = errors.New("the files are full")
	errTaken      = errors.New("this was taken") // answered by what it made, not by a number
	errTorn       = errors.New("this is torn")   // passed over, and not told
)

// trouble tells where or how something went wrong, and wraps what it was.
type trouble struct {
	where string
	cause error
}

func (t *trouble) Error() string { return t.where + ": " + t.cause.Error() }

func (t *trouble) Unwrap() error { return t.cause }

// number is what the face answers for what went wrong inside.
func number(err error) Errno {
	switch {
	case err == nil:
		return OK
	case errors.Is(err, errNoChange):
		return ErrOp
	case errors.Is(err, errNoName):
		return ErrName
	case errors.Is(err, errNoRevision):
		return ErrBase
	case errors.Is(err, errOver):
		return ErrOld
	case errors.Is(err, errTwice):
		return ErrTwice
	case errors.Is(err, errNone):
		return ErrNone
	case errors.Is(err, errGap):
		return ErrGap
	case errors.Is(err, errMany):
		return ErrMany
	case errors.Is(err, errFull):
		return ErrFull
	default:
		return ErrLength
	}
}
