package builder_test

import (
	"crypto/sha256"
	"encoding/hex"
	"strings"
	"testing"

	"builder/builder"
)

func TestSumOfKnownTexts(t *testing.T) {
	for text, want := range map[string]string{
		"":    "e3b0c44298fc1c149afbf4c8996fb92427ae41e4649b934ca495991b7852b855",
		"abc": "ba7816bf8f01cfea414140de5dae2223b00361a396177a9cb410ff61f20015ad",
	} {
		if got := hex.EncodeToString([]byte(builder.Sum(text))); got != want {
			t.Errorf("Sum(%q): %s, want %s", text, got, want)
		}
	}
}

// Around each end of a block, of padding, and of the greatest file; bytes that are no UTF-8, too.
func TestSumOfLengths(t *testing.T) {
	for _, n := range []int{1, 54, 55, 56, 57, 63, 64, 65, 118, 119, 120, 127, 128, 129, 4000, 65535, 65536, 65537} {
		for _, piece := range []string{"\x00", "a", "\xff", "\x80"} {
			text := strings.Repeat(piece, n)
			if got, want := builder.Sum(text), sha256.Sum256([]byte(text)); got != string(want[:]) {
				t.Errorf("Sum of %d bytes %q: %x, want %x", n, piece, got, want)
			}
		}
	}
}
