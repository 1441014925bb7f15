package builder_test

import (
	"errors"
	"fmt"
	"slices"
	"strings"
	"sync"
	"testing"

	"builder/builder"
)

// manifestOf parses a text that is sound.
func manifestOf(t *testing.T, text string) *builder.Manifest {
	t.Helper()
	m, err := builder.Parse(text)
	if err != nil {
		t.Fatalf("Parse(%q): %v", text, err)
	}
	return m
}

// ordered tells what Order answers: the places, or the reason.
func ordered(t *testing.T, m *builder.Manifest, targets ...string) string {
	t.Helper()
	places, err := m.Order(targets...)
	if err == nil {
		return strings.Trim(fmt.Sprint(places), "[]")
	}
	var fault *builder.Fault
	if len(places) != 0 || errors.As(err, &fault) {
		t.Fatalf("Order(%q): places %v beside an error, or a line with it: %v", targets, places, err)
	}
	return reasonName(err)
}

// orders is the targets (blanks between; "": none), and what is told of them, by turns.
type orders [][2]string

func (list orders) try(t *testing.T, lines ...string) {
	t.Helper()
	m := manifestOf(t, behindRule(strings.Join(lines, "\n")))
	for _, each := range list {
		if got := ordered(t, m, strings.Fields(each[0])...); got != each[1] {
			t.Errorf("of %q: Order(%s): %s, want %s", lines, each[0], got, each[1])
		}
	}
}

func TestOrderExamples(t *testing.T) {
	orders{{"a", "1 0"}}.try(t, "build a: c b", "build b: c c")
	orders{{"a", "cycle"}}.try(t, "build a: c b", "build b: c a")
}

func TestOrderOfTargets(t *testing.T) {
	orders{
		{"a", "1 0"},
		{"b", "1"},
		{"e", "2"},
		{"f", "2"},
		{"g", "2"},
		{"a e", "1 0 2"},
		{"e a", "2 1 0"},
		{"a b", "1 0"},
		{"b a", "1 0"},
		{"a a", "1 0"},
		{"g f e g", "2"},
		{"e b f a", "2 1 0"},
	}.try(t, "build a: c b d", "build b: c", "build e f | g: c d")
}

func TestOrderOfWrongTargets(t *testing.T) {
	lines := []string{"build a: c b | i || o", "build b: c", "default b"}
	orders{
		{"d", "target"},
		{"c", "target"},
		{"i", "target"},
		{"o", "target"},
		{"A", "target"},
		{"aa", "target"},
		{"a d", "target"},
		{"d a", "target"},
		{"a a d", "target"},
		{".log", "target"},
	}.try(t, lines...)
	m := manifestOf(t, behindRule(strings.Join(lines, "\n")))
	for _, target := range []string{"", " ", "a b", "a ", "\x00", "é", "\xff", strings.Repeat("a", 100000)} {
		if got := ordered(t, m, target); got != "target" {
			t.Errorf("Order(%q): %s, want target", target, got)
		}
		if got := ordered(t, m, "a", target); got != "target" {
			t.Errorf("Order(a, %q): %s, want target", target, got)
		}
	}
}

func TestOrderOfCycles(t *testing.T) {
	for _, text := range []string{
		"build a: c a",
		"build a: c x | a",
		"build a: c x | y || a",
		"build a b: c b",
		"build a | b: c || b",
		"build a: c b\nbuild b: c a",
		"build a: c | b\nbuild b: c || a",
		"build a: c b\nbuild b d: c e\nbuild e: c | d",
		"build a: c b\nbuild b: c d\nbuild d: c e\nbuild e: c f\nbuild f: c b",
		"build a: c b d\nbuild b: c\nbuild d: c b a",
	} {
		// An edge that hangs on nothing, a target that is none, no target: the cycle comes first.
		all := []string{text, "build z: c"}
		orders{{"z", "cycle"}, {"a", "cycle"}, {"none", "cycle"}, {"z none", "cycle"}, {"", "cycle"}}.try(t, all...)
		slices.Reverse(all)
		orders{{"z", "cycle"}, {"none", "cycle"}, {"", "cycle"}}.try(t, all...)
		orders{{"", "cycle"}}.try(t, append(all, "default z")...)
		orders{{"", "cycle"}}.try(t, append(all, "default none")...)
	}
}

// An edge that is reached on several ways, or by several of its outs, does not hang on itself.
func TestOrderWithoutCycles(t *testing.T) {
	orders{{"", "3 1 2 0"}, {"a d", "3 1 2 0"}}.try(t, "build a: c b d", "build b: c e", "build d: c e", "build e: c")
	orders{{"", "1 0"}}.try(t, "build a: c b b d | b || d", "build b d: c")
	orders{{"", "0"}}.try(t, "build a: c x x | x || x")
	orders{{"", "2 1 0"}}.try(t, "build a: c b d", "build b: c d", "build d: c")
}

func TestOrderGoesFromTheLeft(t *testing.T) {
	edges := "build %s: c\nbuild %s: c\nbuild %s: c\nbuild %s: c\nbuild %s: c\nbuild %s: c\nbuild a: c f e | g d || h b"
	orders{{"a", "0 1 2 3 4 5 6"}}.try(t, fmt.Sprintf(edges, "f", "e", "g", "d", "h", "b"))
	orders{{"a", "5 4 3 2 1 0 6"}}.try(t, fmt.Sprintf(edges, "b", "h", "d", "g", "e", "f"))
	orders{{"a", "2 0 4 1 3 5 6"}}.try(t, fmt.Sprintf(edges, "e", "d", "f", "h", "g", "b"))
	// What an edge needs is looked through to the ground, ahead of what stands further right.
	orders{{"a", "4 3 1 5 2 0"}}.try(t, "build a: c b || d", "build b: c || e", "build d: c f", "build e: c g", "build g: c", "build f: c")
	orders{{"a", "3 1 2 0"}, {"d", "3 1 2"}}.try(t, "build a: c b || d", "build b: c x | e", "build d: c e b", "build e: c")
}

// A need that is made already stays ahead, where it is.
func TestOrderTellsEachOnce(t *testing.T) {
	orders{
		{"e a", "4 1 0"},
		{"a e", "1 4 0"},
		{"f a e", "1 2 3 4 0"},
		{"d f", "2 1 3"},
	}.try(t, "build a: c b e", "build b: c", "build d: c", "build f: c b d", "build e: c")
}

func TestOrderOfDefaults(t *testing.T) {
	orders{{"", "2 1"}, {"a", "1 0"}}.try(t, "build a: c b", "build b: c", "build e: c", "default e", "default b")
	orders{{"", "1 0"}}.try(t, "build a: c", "build b: c", "build e: c", "default b a b")
	orders{{"", "0"}}.try(t, "default a", "build a: c", "build b: c")
	orders{{"", "1"}}.try(t, "build x: c y", "build y: c", "default y")
	// Each with the variables so far.
	orders{{"", "1 2 0"}}.try(t, "build d: c", "build a1: c", "build c2: c", "build e: c", "v = 1", "default a$v", "v = 2", "default c$v d")
	orders{{"", "target"}, {"a", "0"}, {"none", "target"}}.try(t, "build a: c", "default a none")
	orders{{"", "target"}, {"x", "target"}}.try(t, "build a: c x", "default x")
	orders{{"", "target"}}.try(t, "default q")
}

// Without targets and defaults: the outs that no edge hangs on, not the edges.
func TestOrderOfAll(t *testing.T) {
	orders{{"", "1 0 2"}}.try(t, "build a: c b", "build b: c", "build e: c")
	orders{{"", "0 1 2"}}.try(t, "build a: c", "build b: c x", "build d: c")
	orders{{"", "0 2 1"}}.try(t, "build a b: c", "build d: c x b", "build x: c")
	orders{{"", "0 2 1"}}.try(t, "build b | a: c", "build d: c x b", "build x: c")
	orders{{"", "2 0 1"}}.try(t, "build a b: c", "build d: c x b a", "build x: c")
	orders{{"", "2 0 1"}}.try(t, "build a b: c", "build d: c x | b || a", "build x: c")
	orders{{"", ""}, {"v", "target"}}.try(t, "v = 1")
	if got := ordered(t, manifestOf(t, "")); got != "" {
		t.Errorf("Order of an empty manifest: %s", got)
	}
	if got := ordered(t, manifestOf(t, ""), ""); got != "target" {
		t.Errorf("Order of an empty manifest, of an empty target: %s", got)
	}
}

func TestOrderOfAsManyEdgesAsMayBe(t *testing.T) {
	var up, down []string
	for i := range 64 {
		up = append(up, fmt.Sprint(i))
		down = append(down, fmt.Sprint(63-i))
	}
	chain := func(need int) (lines []string) {
		for i := range 64 {
			// Two ways from each edge to the next: none may be gone twice.
			lines = append(lines, fmt.Sprintf("build a%d b%d: c a%d b%d", i, i, i+need, i+need))
		}
		return lines
	}
	orders{{"a0", strings.Join(down, " ")}, {"a63", "63"}, {"", strings.Join(down, " ")}}.try(t, chain(1)...)
	orders{{"b63", strings.Join(up, " ")}, {"a0", "0"}, {"", strings.Join(up, " ")}}.try(t, chain(-1)...)
	round := chain(1)
	round[63] = "build a63 b63: c b0"
	orders{{"a0", "cycle"}, {"a63", "cycle"}}.try(t, round...)
	round[63] = "build a63 b63: c b62"
	orders{{"a0", "cycle"}, {"a63", "cycle"}}.try(t, round...)
}

func TestOrderIsTheCallers(t *testing.T) {
	m := manifestOf(t, behindRule("build a: c b\nbuild b: c\ndefault a b"))
	targets := []string{"b", "a", "b"}
	places, err := m.Order(targets...)
	answers(t, "Order", err, nil)
	places[0], places[1] = 7, 8
	targets[0] = "none"
	for range 2 {
		if got := ordered(t, m, "b", "a"); got != "1 0" {
			t.Errorf("Order behind a list that was changed: %s", got)
		}
		if got := ordered(t, m); got != "1 0" {
			t.Errorf("Order of the defaults behind a list that was changed: %s", got)
		}
	}
	if !slices.Equal(targets, []string{"none", "a", "b"}) {
		t.Errorf("the targets were changed: %q", targets)
	}
	if got := told(m.Edges()); got != "a<b|| c: cat b; b<|| c: cat " {
		t.Errorf("the manifest was changed: %s", got)
	}
	if got := ordered(t, m, []string{}...); got != "1 0" {
		t.Errorf("Order of an empty list: %s", got)
	}
}

func TestOrderOfManyAtOnce(t *testing.T) {
	m := manifestOf(t, behindRule("build a: c b d\nbuild b: c\nbuild d: c b\ndefault d a"))
	var all sync.WaitGroup
	for range 8 {
		all.Go(func() {
			for range 50 {
				places, err := m.Order()
				if err != nil || !slices.Equal(places, []int{1, 2, 0}) {
					t.Errorf("Order: %v, %v", places, err)
				}
			}
		})
	}
	all.Wait()
}
