package builder_test

import (
	"fmt"
	"math/rand"
	"strings"
	"testing"

	"builder/builder"
)

// modelOrdered tells of edges what ordered tells of their manifest: by a table of who hangs on whom, and by lists put one behind the other.
func modelOrdered(edges []builder.Edge, defaults, targets []string) string {
	maker := map[string]int{}
	for i, e := range edges {
		for _, out := range e.Outs {
			maker[out] = i
		}
	}
	needed := map[string]bool{}
	hangs := make([][]bool, len(edges))
	for i, e := range edges {
		hangs[i] = make([]bool, len(edges))
		for _, list := range [][]string{e.Ins, e.Implicit, e.Order} {
			for _, file := range list {
				needed[file] = true
				if k, ok := maker[file]; ok {
					hangs[i][k] = true
				}
			}
		}
	}
	for k := range edges {
		for i := range edges {
			for j := range edges {
				hangs[i][j] = hangs[i][j] || hangs[i][k] && hangs[k][j]
			}
		}
	}
	for i := range edges {
		if hangs[i][i] {
			return "cycle"
		}
	}
	if len(targets) == 0 {
		targets = defaults
	}
	if len(targets) == 0 {
		for _, e := range edges {
			for _, out := range e.Outs {
				if !needed[out] {
					targets = append(targets, out)
				}
			}
		}
	}
	var ahead func(place int) []int
	ahead = func(place int) (list []int) {
		e := edges[place]
		for _, part := range [][]string{e.Ins, e.Implicit, e.Order} {
			for _, file := range part {
				if k, ok := maker[file]; ok {
					list = append(list, ahead(k)...)
				}
			}
		}
		return append(list, place)
	}
	var each []string
	seen := map[int]bool{}
	for _, target := range targets {
		place, ok := maker[target]
		if !ok {
			return "target"
		}
		for _, next := range ahead(place) {
			if !seen[next] {
				seen[next] = true
				each = append(each, fmt.Sprint(next))
			}
		}
	}
	return strings.Join(each, " ")
}

// drawn takes up to most of a list, by chance.
func drawn(r *rand.Rand, most int, list []string) []string {
	var some []string
	for range r.Intn(most + 1) {
		some = append(some, list[r.Intn(len(list))])
	}
	return some
}

// manifestByChance writes a manifest; the fewer turn back, the fewer edges hang on themselves.
func manifestByChance(r *rand.Rand) (text string, defaults, files []string) {
	const most = 9
	for i := range most {
		files = append(files, fmt.Sprint("a", i), fmt.Sprint("b", i))
	}
	files = append(files, "x", "y")
	turnsBack := r.Intn(3) == 0
	lines := make([]string, r.Intn(most))
	places := r.Perm(len(lines))
	for i, place := range places {
		from := files[2*i+2:]
		if turnsBack {
			from = files
		}
		outs := []string{fmt.Sprint("a", i), fmt.Sprintf("a%d b%d", i, i), fmt.Sprintf("b%d | a%d", i, i)}[r.Intn(3)]
		lines[place] = fmt.Sprintf("build %s: c %s | %s || %s", outs, strings.Join(drawn(r, 2, from), " "), strings.Join(drawn(r, 1, from), " "), strings.Join(drawn(r, 1, from), " "))
	}
	if r.Intn(3) == 0 && len(lines) > 0 {
		defaults = append(drawn(r, 2, files), fmt.Sprint("a", r.Intn(len(lines))))
		lines = append(lines, "default "+strings.Join(defaults, " "))
	}
	return behindRule(strings.Join(lines, "\n")), defaults, files
}

func TestOrderAgainstAModel(t *testing.T) {
	seen := map[string]int{}
	for i := range 20000 {
		r := rand.New(rand.NewSource(int64(i)))
		text, defaults, files := manifestByChance(r)
		m := manifestOf(t, text)
		targets := drawn(r, 2, files[:4+r.Intn(len(files)-3)])
		got, want := ordered(t, m, targets...), modelOrdered(m.Edges(), defaults, targets)
		if got != want {
			t.Fatalf("text %d: %q: Order(%q): %s, want %s", i, text, targets, got, want)
		}
		switch {
		case got == "cycle", got == "target":
			seen[got]++
		case len(got) > len("0 1 2"):
			seen["long"]++
		}
	}
	for _, what := range []string{"cycle", "target", "long"} {
		if seen[what] < 1000 {
			t.Errorf("only %d of the texts are %q: %v", seen[what], what, seen)
		}
	}
}
