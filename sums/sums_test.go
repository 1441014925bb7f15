package sums

import (
	"crypto/sha256"
	"encoding/hex"
	"math/rand"
	"strings"
	"testing"
)

// The examples that the standard's makers tell, beside the empty text.
func TestKnownTexts(t *testing.T) {
	for _, c := range []struct{ text, want string }{
		{"", "e3b0c44298fc1c149afbf4c8996fb92427ae41e4649b934ca495991b7852b855"},
		{"abc", "ba7816bf8f01cfea414140de5dae2223b00361a396177a9cb410ff61f20015ad"},
		{"abcdbcdecdefdefgefghfghighijhijkijkljklmklmnlmnomnopnopq", "248d6a61d20638b8e5c026930c3e6039a33ce45964ff2167f6ecedd419db06c1"},
		{strings.Repeat("a", 1000000), "cdc76e5c9914fb9281a1c7e284d73e67f1809a48a497200e046d39ccc7112cd0"},
	} {
		got := Of(c.text)
		if hex.EncodeToString(got[:]) != c.want {
			t.Errorf("a text of %d bytes: %x, want %s", len(c.text), got, c.want)
		}
	}
}

// Every place of the text's end in a block, with bytes of all kinds.
func TestEveryLength(t *testing.T) {
	r := rand.New(rand.NewSource(1))
	for n := range 400 {
		data := make([]byte, n)
		r.Read(data)
		for _, text := range []string{string(data), strings.Repeat("\x00", n), strings.Repeat("\xff", n)} {
			if got, want := Of(text), sha256.Sum256([]byte(text)); got != want {
				t.Fatalf("%d bytes %q: %x, want %x", n, text, got, want)
			}
		}
	}
}
