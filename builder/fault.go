package builder

import "strconv"

// Fault is a reason and at which line: asked with errors.As (for a *Fault).
type Fault struct {
	At  int
	Err error
}

func (f *Fault) Error() string {
	if f == nil {
		return "no fault"
	}
	return "line " + strconv.Itoa(f.At) + ": " + reasonText(f.Err)
}

func (f *Fault) Unwrap() error {
	if f == nil {
		return nil
	}
	return f.Err
}

// reasonText asks only the package's own reasons for their text: any other error may panic, or be the very Fault that asks.
func reasonText(err error) string {
	switch err {
	case nil:
		return "no reason"
	case ErrName, ErrNone, ErrRoom, ErrDown, ErrSyntax, ErrRule, ErrTwice, ErrCycle, ErrTarget:
		return err.Error()
	}
	return "another reason"
}
