package builder_test

import (
	"errors"
	"math"
	"testing"

	"builder/builder"
)

func reasons() []error {
	return []error{builder.ErrName, builder.ErrNone, builder.ErrRoom, builder.ErrDown, builder.ErrSyntax, builder.ErrRule, builder.ErrTwice, builder.ErrCycle, builder.ErrTarget}
}

func TestReasonsAreApart(t *testing.T) {
	for i, a := range reasons() {
		if a == nil || a.Error() == "" {
			t.Fatalf("reason %d has no text", i)
		}
		for k, b := range reasons() {
			if errors.Is(a, b) != (i == k) {
				t.Errorf("errors.Is of reasons %d and %d: %v", i, k, i != k)
			}
		}
	}
}

func TestFaultWrapsItsReason(t *testing.T) {
	for i, reason := range reasons() {
		for _, at := range []int{0, 1, 7, -1, math.MinInt, math.MaxInt} {
			fault := &builder.Fault{At: at, Err: reason}
			if fault.Unwrap() != reason || fault.Error() == "" {
				t.Fatalf("reason %d at %d: wraps %v, has the text %q", i, at, fault.Unwrap(), fault.Error())
			}
			for k, other := range reasons() {
				if errors.Is(fault, other) != (i == k) {
					t.Errorf("a Fault of reason %d: errors.Is of reason %d: %v", i, k, i != k)
				}
			}
			var got *builder.Fault
			if !errors.As(errors.Join(fault), &got) || got != fault || got.At != at {
				t.Errorf("errors.As of a Fault at %d: %v", at, got)
			}
		}
	}
}

type panics struct{ uncomparable []int }

func (panics) Error() string { panic("an error without a text") }

// A Fault has a text whatever its Err is, and asking for it ends.
func TestFaultOfAnyError(t *testing.T) {
	itself := &builder.Fault{At: 1}
	itself.Err = itself
	var none *builder.Fault
	for _, err := range []error{nil, itself, none, panics{}, errors.New(""), &builder.Fault{At: 2, Err: builder.ErrRule}} {
		fault := &builder.Fault{At: 3, Err: err}
		if fault.Error() == "" {
			t.Errorf("a Fault of %T has no text", err)
		}
	}
	if itself.Error() == "" || none.Error() == "" || none.Unwrap() != nil {
		t.Error("a Fault of itself, or none: no text, or it wraps something")
	}
	if (&builder.Fault{}).Unwrap() != nil {
		t.Error("a Fault of no error wraps one")
	}
	if inner := errors.New("inner"); (&builder.Fault{Err: inner}).Unwrap() != inner {
		t.Error("a Fault's Unwrap is not its Err")
	}
}
