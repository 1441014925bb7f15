package builder_test

import (
	"maps"
	"math/rand"
	"strings"
	"testing"

	"builder/builder"
)

// deed is one call, in plain data.
type deed struct {
	call     string
	name, to string
	data     string
	n, cut   int
}

// model is what the document tells of files, without a thought for speed: states has one for each operation since all was safe, and the safe one ahead of them.
type model struct {
	states     []map[string]string
	done       []deed
	room, fuse int
	down       bool
}

func newModel(room int) *model {
	m := &model{states: []map[string]string{{}}}
	m.setRoom(room)
	return m
}

func (m *model) setRoom(room int) {
	switch {
	case room < 0:
		m.room = 0
	case room > 65536:
		m.room = 65536
	default:
		m.room = room
	}
}

func (m *model) now() map[string]string { return m.states[len(m.states)-1] }

// changed tells another state: a state behind a deed.
func changed(state map[string]string, d deed) map[string]string {
	next := maps.Clone(state)
	switch d.call {
	case "write":
		next[d.name] = d.data
	case "append":
		next[d.name] += d.data
	case "rename":
		delete(next, d.name)
		next[d.to] = state[d.name]
	case "remove":
		delete(next, d.name)
	}
	return next
}

func nameIsFine(name string) bool {
	return len(name) >= 1 && len(name) <= 32 && strings.Trim(name, "abcdefghijklmnopqrstuvwxyzABCDEFGHIJKLMNOPQRSTUVWXYZ0123456789._/-") == ""
}

// refused tells what but ErrDown refuses a deed.
func (m *model) refused(d deed) error {
	_, there := m.now()[d.name]
	total := 0
	for _, data := range changed(m.now(), d) {
		total += len(data)
	}
	names := d.call != "sync" && !nameIsFine(d.name) || d.call == "rename" && !nameIsFine(d.to)
	writes := d.call == "write" || d.call == "append"
	takes := d.call == "rename" || d.call == "remove"
	switch {
	case names:
		return builder.ErrName
	case takes && !there:
		return builder.ErrNone
	case writes && total > m.room:
		return builder.ErrRoom
	}
	return nil
}

func (m *model) operate(d deed) error {
	if err := m.refused(d); err != nil {
		return err
	}
	if m.fuse == 1 {
		m.down = true
	}
	m.fuse = max(m.fuse-1, 0)
	if m.down {
		return builder.ErrDown
	}
	m.states, m.done = append(m.states, changed(m.now(), d)), append(m.done, d)
	if d.call == "sync" {
		m.states, m.done = []map[string]string{m.now()}, nil
	}
	return nil
}

func (m *model) crash(keep, cut int) {
	if keep < 0 {
		keep = 0
	}
	if keep > len(m.done) {
		keep = len(m.done)
	}
	state := m.states[keep]
	if keep < len(m.done) && cut >= 0 {
		d := m.done[keep]
		if cut < len(d.data) {
			d.data = d.data[:cut]
		}
		if d.call == "write" || d.call == "append" {
			state = changed(state, d)
		}
	}
	m.states, m.done, m.fuse, m.down = []map[string]string{state}, nil, 0, false
}

// both carries a deed out on the files and on their model.
func both(f *builder.Files, m *model, d deed) (error, error) {
	switch d.call {
	case "write":
		return f.Write(d.name, d.data), m.operate(d)
	case "append":
		return f.Append(d.name, d.data), m.operate(d)
	case "rename":
		return f.Rename(d.name, d.to), m.operate(d)
	case "remove":
		return f.Remove(d.name), m.operate(d)
	case "sync":
		return f.Sync(), m.operate(d)
	case "fuse":
		f.Fuse(d.n)
		m.fuse = max(d.n, 0)
	case "crash":
		f.Crash(d.n, d.cut)
		m.crash(d.n, d.cut)
	case "room":
		f.Room(d.n)
		m.setRoom(d.n)
	}
	return nil, nil
}

func someDeed(r *rand.Rand) deed {
	calls := []string{"write", "write", "write", "append", "append", "append", "rename", "rename", "remove", "sync", "fuse", "crash", "crash", "room"}
	names := []string{"a", "b", "c", "d/e", "a", "b", "", "é", strings.Repeat("n", 32), strings.Repeat("n", 33)}
	d := deed{call: calls[r.Intn(len(calls))], name: names[r.Intn(len(names))], n: r.Intn(8) - 1, cut: r.Intn(8) - 2}
	switch d.call {
	case "write", "append":
		d.data = "0123456789"[:r.Intn(11)]
	case "rename":
		d.to = names[r.Intn(len(names))]
	case "fuse":
		d.n = r.Intn(15) - 3
	case "room":
		d.n = r.Intn(60) - 3
	}
	return d
}

// Long runs of any calls whatever: the files answer as their model does, and hold what it holds.
func TestFilesAgainstModel(t *testing.T) {
	r := rand.New(rand.NewSource(4))
	for range 300 {
		room := r.Intn(60) - 3
		f, m := builder.NewFiles(room), newModel(room)
		var done []deed
		for range 100 {
			d := someDeed(r)
			done = append(done, d)
			got, want := both(f, m, d)
			if !is(got, want) {
				t.Fatalf("room %d, %+v: the last answers %v, want %v", room, done, got, want)
			}
			var flat []string
			for name, data := range m.now() {
				flat = append(flat, name, data)
			}
			holds(t, f, flat...)
		}
	}
}
