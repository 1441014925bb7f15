package sums

import (
	"hash/crc32"
	"math/rand"
	"testing"
)

func TestKnownCRCs(t *testing.T) {
	for text, want := range map[string]uint32{"": 0, "123456789": 0xcbf43926, "a": 0xe8b7be43, "\x00": 0xd202ef8d, "\xff\xff\xff\xff": 0xffffffff} {
		if got := CRC(text); got != want {
			t.Errorf("CRC(%q): %08x, want %08x", text, got, want)
		}
	}
}

func TestCRCOfEveryLength(t *testing.T) {
	r := rand.New(rand.NewSource(1))
	for n := range 300 {
		data := make([]byte, n)
		r.Read(data)
		if got, want := CRC(string(data)), crc32.ChecksumIEEE(data); got != want {
			t.Fatalf("%d bytes %q: %08x, want %08x", n, data, got, want)
		}
	}
}
