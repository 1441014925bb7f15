// Package builder: files are built out of files, as a manifest says: see DOC.md.
package builder

import (
	"errors"

	"builder/sums"
)

// Why something is refused: asked with errors.Is.
var (
	ErrName   = errors.New("a name that may not be")
	ErrNone   = errors.New("there is no such file")
	ErrRoom   = errors.New("there is no room")
	ErrDown   = errors.New("the files are down")
	ErrSyntax = errors.New("a line that may not be")
	ErrRule   = errors.New("no such rule, or one that is there already")
	ErrTwice  = errors.New("a file that two make")
	ErrCycle  = errors.New("a file that hangs on itself")
	ErrTarget = errors.New("no such target")
)

// Edge makes files of others (P7).
type Edge struct {
	Outs, Ins, Implicit, Order []string
	Rule, Command              string
}

// Report tells what a build did (P12).
type Report struct {
	Ran, Clean, Failed, Blocked []string
}

// Sum tells the 32 bytes of a text's SHA-256 (P3).
func Sum(text string) string {
	sum := sums.Of(text)
	return string(sum[:])
}
