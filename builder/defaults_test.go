package builder

import (
	"slices"
	"testing"
)

// The defaults of all default lines join, in order, each with the variables so far.
func TestDefaultsJoin(t *testing.T) {
	m, err := Parse("v = 1\ndefault a$v b\nv = 2\ndefault b c$v\n")
	if err != nil {
		t.Fatal(err)
	}
	if want := []string{"a1", "b", "b", "c2"}; !slices.Equal(m.defaults, want) {
		t.Errorf("defaults: %q, want %q", m.defaults, want)
	}
}
