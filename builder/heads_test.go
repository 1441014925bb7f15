package builder_test

import (
	"crypto/sha256"
	"encoding/hex"
	"os"
	"testing"

	"builder/builder"
)

// The heads are given: this does not compile if one of them changes.
var (
	_ func(string) string                                             = builder.Sum
	_ func(int) *builder.Files                                        = builder.NewFiles
	_ func(*builder.Files, string) (string, error)                    = (*builder.Files).Read
	_ func(*builder.Files) []string                                   = (*builder.Files).Names
	_ func(*builder.Files, string, string) error                      = (*builder.Files).Write
	_ func(*builder.Files, string, string) error                      = (*builder.Files).Append
	_ func(*builder.Files, string, string) error                      = (*builder.Files).Rename
	_ func(*builder.Files, string) error                              = (*builder.Files).Remove
	_ func(*builder.Files) error                                      = (*builder.Files).Sync
	_ func(*builder.Files, int)                                       = (*builder.Files).Fuse
	_ func(*builder.Files, int, int)                                  = (*builder.Files).Crash
	_ func(*builder.Files, int)                                       = (*builder.Files).Room
	_ func(string) (*builder.Manifest, error)                         = builder.Parse
	_ func(*builder.Manifest) []builder.Edge                          = (*builder.Manifest).Edges
	_ func(*builder.Manifest, ...string) ([]int, error)               = (*builder.Manifest).Order
	_ func(string, func(string) (string, bool)) (string, bool)        = builder.Run
	_ func(*builder.Files, string, ...string) (builder.Report, error) = builder.Build
	_                                                                 = builder.Edge{Outs: []string{}, Ins: []string{}, Implicit: []string{}, Order: []string{}, Rule: "", Command: ""}
	_                                                                 = builder.Report{Ran: []string{}, Clean: []string{}, Failed: []string{}, Blocked: []string{}}
	_                                                                 = builder.Fault{At: 0, Err: nil}
)

// The package plain is given whole, and stays as it is to the byte.
func TestPlainIsAsGiven(t *testing.T) {
	text, err := os.ReadFile("../plain/plain.go")
	if err != nil {
		t.Fatal(err)
	}
	const want = "514b88d49f74a54e99671b0f94183c230d62400ec811e899603cdc9276f2575f"
	sum := sha256.Sum256(text)
	if got := hex.EncodeToString(sum[:]); got != want {
		t.Errorf("plain.go has the sum %s, want %s", got, want)
	}
}
