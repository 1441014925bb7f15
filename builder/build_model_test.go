package builder_test

import (
	"fmt"
	"math/rand"
	"slices"
	"strings"
	"testing"

	"builder/builder"
)

// row is a record, with the bytes that it stands in.
type row struct{ name, signature, sum, bytes string }

// modelRows tells the records that a log's text begins with, and what is left behind them.
func modelRows(text string) (rows []row, left string) {
	for {
		found := false
		for n := 1; n <= 32 && n+70 <= len(text); n++ {
			body := text[1 : 1+n+65]
			if text[:n+70] == framed(body) && body[0] == byte(n) && nameIsFine(body[1:1+n]) {
				rows = append(rows, row{body[1 : 1+n], body[1+n : 33+n], body[33+n:], text[:n+70]})
				text, found = text[n+70:], true
				break
			}
		}
		if !found {
			return rows, text
		}
	}
}

// second is a second builder, that does what it does to files of its own.
type second struct {
	files  *builder.Files
	rows   []row
	lists  [4][]string
	failed map[string]bool
}

// do does operations until one is refused.
func do(steps ...func() error) error {
	for _, step := range steps {
		if err := step(); err != nil {
			return err
		}
	}
	return nil
}

func (m *second) sync() error { return m.files.Sync() }

func (m *second) anew() error {
	var names []string
	last := map[string]row{}
	for _, each := range m.rows {
		if !slices.Contains(names, each.name) {
			names = append(names, each.name)
		}
		last[each.name] = each
	}
	m.rows = nil
	text := head
	for _, name := range names {
		m.rows = append(m.rows, last[name])
		text += last[name].bytes
	}
	return do(func() error { return m.files.Write(".log.new", text) }, m.sync, func() error { return m.files.Rename(".log.new", ".log") }, m.sync)
}

func (m *second) isThere(names []string) bool {
	for _, name := range names {
		if !slices.Contains(m.files.Names(), name) {
			return false
		}
	}
	return true
}

// edge tells which of the report's lists an edge belongs in.
func (m *second) edge(e builder.Edge) (int, error) {
	needed := slices.Concat(e.Ins, e.Implicit, e.Order)
	if slices.ContainsFunc(needed, func(name string) bool { return m.failed[name] }) {
		return 3, nil
	}
	if !m.isThere(needed) {
		return 2, nil
	}
	var parts []string
	may := map[string]string{}
	for _, name := range slices.Concat(e.Ins, e.Implicit) {
		data, _ := m.files.Read(name)
		may[name] = data
		parts = append(parts, name, data)
	}
	signature := signed(e.Command, parts...)
	clean := 0
	for _, out := range e.Outs {
		for i := len(m.rows) - 1; i >= 0; i-- {
			if m.rows[i].name == out {
				data, _ := m.files.Read(out)
				if m.isThere([]string{out}) && m.rows[i].signature == signature && m.rows[i].sum == summed(data) {
					clean++
				}
				break
			}
		}
	}
	if clean == len(e.Outs) {
		return 1, nil
	}
	made, ok := modelRun(e.Command, may)
	if !ok {
		return 2, nil
	}
	return 0, m.keep(e.Outs, made, signature)
}

func (m *second) keep(outs []string, made, signature string) error {
	records := ""
	for _, out := range outs {
		if err := m.files.Write(out, made); err != nil {
			return err
		}
		records += entry(out, signature, made)
	}
	rows, _ := modelRows(records)
	m.rows = append(m.rows, rows...)
	return do(m.sync, func() error { return m.files.Append(".log", records) }, m.sync)
}

func (m *second) all(edges []builder.Edge, places []int) error {
	text, _ := m.files.Read(".log")
	rest, begins := strings.CutPrefix(text, head)
	left := ""
	if begins {
		m.rows, left = modelRows(rest)
	}
	if !begins || left != "" {
		if err := m.anew(); err != nil {
			return err
		}
	}
	for _, place := range places {
		e := edges[place]
		kind, err := m.edge(e)
		if err != nil {
			return err
		}
		m.lists[kind] = append(m.lists[kind], e.Outs[0])
		for _, out := range e.Outs {
			m.failed[out] = kind >= 2
		}
	}
	names := map[string]bool{}
	for _, each := range m.rows {
		names[each.name] = true
	}
	if len(m.rows) > len(names)+len(names)+8 {
		return m.anew()
	}
	return nil
}

// modelBuilt tells what built tells, by the model.
func modelBuilt(f *builder.Files, manifest *builder.Manifest, targets []string) string {
	places, err := manifest.Order(targets...)
	if err != nil {
		return "! " + reasonName(err)
	}
	m := &second{files: f, failed: map[string]bool{}}
	err = m.all(manifest.Edges(), places)
	told := reported(builder.Report{Ran: m.lists[0], Clean: m.lists[1], Failed: m.lists[2], Blocked: m.lists[3]})
	if err != nil {
		told += "! " + reasonName(err)
	}
	return told
}

// plant writes a manifest by chance: edges with commands of all kinds, that hang on each other.
func plant(r *rand.Rand) string {
	of := func(list ...string) string { return list[r.Intn(len(list))] }
	text := "rule cat\n command = cat $in\nrule hash\n command = hash $w $in\nrule echo\n command = echo $w $out\nrule one\n command = cat a\nw = " + of("x", "y") + "\n"
	names := []string{"a", "b", "d", "none"}
	for i := range 1 + r.Intn(6) {
		// Outs have the same names in many manifests: then the log has something to tell.
		outs := []string{fmt.Sprint("o", i)}
		if r.Intn(3) == 0 {
			outs = append(outs, fmt.Sprint("p", i))
		}
		if i == 0 && r.Intn(5) == 0 {
			outs[0] = "d"
		}
		known := names[:3]
		if r.Intn(12) == 0 || len(names) > 4 && r.Intn(2) == 0 {
			known = names
		}
		text += fmt.Sprintf("build %s: %s %s | %s || %s\n", strings.Join(outs, of(" ", " | ")), of("cat", "cat", "cat", "hash", "hash", "echo", "one"),
			strings.Join(drawn(r, 2, known), " "), strings.Join(drawn(r, 1, known), " "), strings.Join(drawn(r, 1, known), " "))
		names = append(names, outs...)
	}
	return text
}

// spoil does something to the log, the same to both files.
func spoil(r *rand.Rand, both ...*builder.Files) {
	log, err := both[0].Read(".log")
	if err != nil || log == "" {
		return
	}
	at := r.Intn(len(log))
	other := []byte(log)
	other[at] ^= 1 << r.Intn(8)
	text := []string{log[:at], string(other), log + "x", log + log[at:], log[at:], log + strings.TrimPrefix(log, head)}[r.Intn(6)]
	for _, f := range both {
		f.Write(".log", text)
	}
}

// disturb does something between two builds, the same to both files.
func disturb(r *rand.Rand, both ...*builder.Files) {
	name := []string{"a", "b", "a", "b", "d", "o0", "o1", "p1", "o2", ".log.new"}[r.Intn(10)]
	kind, n, data := r.Intn(30), r.Intn(40), strings.Repeat("z", r.Intn(4))
	if kind < 2 {
		spoil(r, both...)
	}
	for _, f := range both {
		switch {
		case kind < 2:
		case kind < 14:
			f.Write(name, data)
		case kind < 15:
			f.Append(name, data)
		case kind < 16:
			f.Remove(name)
		case kind < 17:
			f.Remove(".log")
		case kind < 21:
			f.Fuse(n/2 + 1)
		case kind < 22:
			f.Room(n * 20)
		case kind < 24:
			f.Room(65536)
		case kind < 25:
			f.Sync()
		case kind < 28:
			f.Crash(n/4-1, n-1)
		}
	}
}

// sameFiles fails if two files do not hold the same.
func sameFiles(t *testing.T, f, g *builder.Files, what string) {
	t.Helper()
	if got, want := all(t, f), all(t, g); !slices.Equal(got, want) {
		t.Fatalf("%s: the files are %q, want %q", what, got, want)
	}
}

// sameAnew fails if what is built now is not what it would be if it had been built anew.
func sameAnew(t *testing.T, f *builder.Files, text, what string) {
	t.Helper()
	m := manifestOf(t, text)
	if _, err := m.Order(); err != nil {
		return
	}
	anew := stocked(t)
	made := map[string]int{}
	for i, e := range m.Edges() {
		for _, out := range e.Outs {
			made[out] = i + 1
		}
	}
	for _, name := range f.Names() {
		if data, _ := f.Read(name); made[name] == 0 && name != ".log" && name != ".log.new" {
			answers(t, "Write", anew.Write(name, data), nil)
		}
	}
	got, err := builder.Build(f, text)
	answers(t, "Build", err, nil)
	want, err := builder.Build(anew, text)
	answers(t, "Build anew", err, nil)
	fine := slices.Concat(got.Ran, got.Clean)
	slices.Sort(fine)
	wanted := slices.Sorted(slices.Values(want.Ran))
	if !slices.Equal(fine, wanted) || !slices.Equal(got.Failed, want.Failed) || !slices.Equal(got.Blocked, want.Blocked) || len(want.Clean) > 0 {
		t.Fatalf("%s: Build: %s, and anew %s", what, reported(got), reported(want))
	}
	for _, first := range fine {
		for _, out := range m.Edges()[made[first]-1].Outs {
			data, _ := anew.Read(out)
			reads(t, f, out, data)
		}
	}
}

func TestBuildAgainstAModel(t *testing.T) {
	seen := map[string]int{}
	for i := range 1500 {
		r := rand.New(rand.NewSource(int64(i)))
		f, g := stocked(t, "a", "A", "b", "B"), stocked(t, "a", "A", "b", "B")
		texts := []string{plant(r), plant(r)}
		for step := range 20 {
			for range r.Intn(3) {
				disturb(r, f, g)
			}
			text := texts[min(r.Intn(4), 1)]
			targets := drawn(r, 1, []string{"o0", "p0", "o1", "o2", "o0"})
			what := fmt.Sprintf("chance %d, step %d: Build(%q, %q)", i, step, text, targets)
			got, want := built(t, f, text, targets...), modelBuilt(g, manifestOf(t, text), targets)
			if got != want {
				t.Fatalf("%s: %s, want %s", what, got, want)
			}
			sameFiles(t, f, g, what)
			for _, word := range []string{"ran", "clean", "failed", "blocked", "room", "down", "target"} {
				if strings.Contains(got, word) {
					seen[word]++
				}
			}
		}
		keep, cut := r.Intn(5)-1, r.Intn(90)-1
		f.Crash(keep, cut)
		g.Crash(keep, cut)
		sameFiles(t, f, g, fmt.Sprintf("chance %d, behind Crash(%d, %d)", i, keep, cut))
		f.Room(65536)
		sameAnew(t, f, texts[0], fmt.Sprint("chance ", i))
	}
	for _, word := range []string{"ran", "clean", "failed", "blocked", "room", "down", "target"} {
		if seen[word] < 500 {
			t.Errorf("only %d of the builds tell %q: %v", seen[word], word, seen)
		}
	}
}

// Of any log and any manifest the model tells the same.
func FuzzBuild(f *testing.F) {
	good := exampleRecord()
	for _, log := range []string{"", head, head + good, head + good + "left", head + strings.Repeat(good, 11), head + framed(""), head + framed("\x01o"), head + good[:50]} {
		f.Add(log, example)
		f.Add(log, behindRule("build o p: c a\nbuild q: c o | b || none\nbuild r: c q"))
	}
	f.Fuzz(func(t *testing.T, log, text string) {
		manifest, err := builder.Parse(text)
		if err != nil || len(log) > 60000 {
			return
		}
		got := stocked(t, "a", "one", "b", "two", "o", "onetwo", ".log", log)
		want := stocked(t, "a", "one", "b", "two", "o", "onetwo", ".log", log)
		for range 2 {
			if told, wanted := built(t, got, text), modelBuilt(want, manifest, nil); told != wanted {
				t.Fatalf("Build(%q) of the log %q: %s, want %s", text, log, told, wanted)
			}
			sameFiles(t, got, want, "Build")
		}
	})
}
