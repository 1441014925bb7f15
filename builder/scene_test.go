package builder_test

import (
	"slices"
	"strings"
	"testing"

	"builder/builder"
)

// event is one thing that a build does: an operation, or that it tells of an edge.
type event struct {
	deed        deed // without a call: it tells of an edge
	list, first string
	rows        []row  // of an edge that ran: its records
	data        string // and what it made
}

// scene is a build, written out by hand: the files that it begins with, all safe, and what it does, in order.
type scene struct {
	what   string
	files  []string
	text   string
	events []event
	// How many of its Writes and Appends can be the first for which there is no room: those at which there is more than ever before.
	peaks int
}

func writes(name, data string) event {
	return event{deed: deed{call: "write", name: name, data: data}}
}

func syncs() event { return event{deed: deed{call: "sync"}} }

func finds(list, first string) event { return event{list: list, first: first} }

// renews is how the log becomes a text.
func renews(text string) []event {
	return []event{writes(".log.new", text), syncs(), {deed: deed{call: "rename", name: ".log.new", to: ".log"}}, syncs()}
}

// makes is how an edge makes data, by a signature.
func makes(data, signature string, outs ...string) []event {
	var events []event
	records := ""
	for _, out := range outs {
		events = append(events, writes(out, data))
		records += entry(out, signature, data)
	}
	rows, _ := modelRows(records)
	adds := event{deed: deed{call: "append", name: ".log", data: records}}
	return append(events, syncs(), adds, syncs(), event{list: "ran", first: outs[0], rows: rows, data: data})
}

// scenes are builds of every kind: with each reason to make the log anew and with none, with edges of each outcome.
func scenes() []scene {
	one := signed("cat a", "a", "one")
	ofO := signed("cat o", "o", "one")
	x, oldO := entry("x", summed("1"), "1"), entry("o", summed("old"), "old")
	chain := behindRule("build n: c none\nbuild o: c a\nbuild p | q: c o\nbuild r: c n\ndefault n p r")
	single := behindRule("build o: c a")
	long := strings.Repeat(oldO, 10)
	return []scene{
		{"no log", []string{"a", "one"}, chain,
			slices.Concat(renews(head), []event{finds("failed", "n")}, makes("one", one, "o"), makes("one", ofO, "p", "q"), []event{finds("blocked", "r")}), 6},
		{"a new log was left", []string{"a", "one", ".log.new", strings.Repeat("n", 40)}, single,
			slices.Concat(renews(head), makes("one", one, "o")), 3},
		{"a log without records", []string{"a", "one", ".log", head}, chain,
			slices.Concat([]event{finds("failed", "n")}, makes("one", one, "o"), makes("one", ofO, "p", "q"), []event{finds("blocked", "r")}), 5},
		{"no log that begins so", []string{"a", "one", "o", "one", ".log", "log"}, single,
			slices.Concat(renews(head), makes("one", one, "o")), 2},
		{"something is left behind the records", []string{"a", "one", ".log", head + x + oldO + x + "left"}, single,
			slices.Concat(renews(head+x+oldO), makes("one", one, "o")), 1},
		{"what is left was to be another record", []string{"a", "one", "o", "one", ".log", head + entry("o", one, "one") + x[:70]}, chain,
			slices.Concat(renews(head+entry("o", one, "one")), []event{finds("failed", "n"), finds("clean", "o")}, makes("one", ofO, "p", "q"), []event{finds("blocked", "r")}), 1},
		{"the log becomes long", []string{"a", "one", "o", "old", ".log", head + long}, single,
			slices.Concat(makes("one", one, "o"), renews(head+entry("o", one, "one"))), 3},
		{"the log is long, nothing is to be made", []string{"a", "one", "o", "one", ".log", head + long + entry("o", one, "one")}, single,
			slices.Concat([]event{finds("clean", "o")}, renews(head+entry("o", one, "one"))), 1},
		{"the log becomes long by an edge of several outs", []string{"a", "one", "o", "one", ".log", head + strings.Repeat(entry("q", summed("old"), "old"), 12) + entry("o", one, "one")}, chain,
			slices.Concat([]event{finds("failed", "n"), finds("clean", "o")}, makes("one", ofO, "p", "q"), []event{finds("blocked", "r")},
				renews(head+entry("q", ofO, "one")+entry("o", one, "one")+entry("p", ofO, "one"))), 4},
		{"outs become smaller, and nothing", []string{"a", "one", "e", "", "o", strings.Repeat("o", 90), "p", "p", ".log", head}, behindRule("build o: c a\nbuild p: c e"),
			slices.Concat(makes("one", one, "o"), makes("", signed("cat e", "e", ""), "p")), 3},
		{"an out is not there, its record is", []string{"a", "one", "p", "one", ".log", head + entry("o", one, "one") + entry("p", one, "one")}, behindRule("build o p: c a"),
			makes("one", one, "o", "p"), 2},
		{"a command fails ahead of those that run", []string{"a", "one", ".log", head}, behindRule("rule f\n command = fail\nbuild f: f a\nbuild g: c f a\nbuild o: c a || a"),
			slices.Concat([]event{finds("failed", "f"), finds("blocked", "g")}, makes("one", one, "o")), 2},
		{"nothing is to be made", []string{"a", "one", "o", "one", ".log", head + entry("o", one, "one")}, single,
			[]event{finds("clean", "o")}, 0},
	}
}

// begin makes a scene's files, and their model, with this room; a fuse burns from here on.
func (s scene) begin(t *testing.T, room, fuse int) (*builder.Files, *model) {
	t.Helper()
	f, m := stocked(t, s.files...), newModel(65536)
	for i := 0; i+1 < len(s.files); i += 2 {
		answers(t, "the model's write", m.operate(deed{call: "write", name: s.files[i], data: s.files[i+1]}), nil)
	}
	answers(t, "the model's sync", m.operate(deed{call: "sync"}), nil)
	f.Room(room)
	m.setRoom(room)
	f.Fuse(fuse)
	m.fuse = fuse
	return f, m
}

// play carries a scene out on a model, up to the first operation that is refused, and tells what Build is to answer.
func (s scene) play(m *model) string {
	lists := map[string][]string{}
	for _, each := range s.events {
		if each.deed.call == "" {
			lists[each.list] = append(lists[each.list], each.first)
		} else if err := m.operate(each.deed); err != nil {
			return listed(lists) + "! " + reasonName(err)
		}
	}
	return listed(lists)
}

func listed(lists map[string][]string) string {
	return reported(builder.Report{Ran: lists["ran"], Clean: lists["clean"], Failed: lists["failed"], Blocked: lists["blocked"]})
}

// stop builds a scene up to where it is refused, and fails if it does not come to what the scene tells.
func (s scene) stop(t *testing.T, room, fuse int) (*builder.Files, *model) {
	t.Helper()
	f, m := s.begin(t, room, fuse)
	want := s.play(m)
	if got := built(t, f, s.text); got != want {
		t.Fatalf("%s, room %d, fuse %d: Build: %s, want %s", s.what, room, fuse, got, want)
	}
	holds(t, f, flat(m.now())...)
	return f, m
}

// operations counts a scene's operations.
func (s scene) operations() int {
	n := 0
	for _, each := range s.events {
		if each.deed.call != "" {
			n++
		}
	}
	return n
}

// toldFrom tells what a build tells that begins with the files as a scene that was broken off left them: of what runs in the scene, that is clean of which each out and each record came through.
func (s scene) toldFrom(state map[string]string) string {
	lists := map[string][]string{}
	for _, each := range s.events {
		switch {
		case each.list == "ran" && cameThrough(each, state):
			lists["clean"] = append(lists["clean"], each.first)
		case each.list != "":
			lists[each.list] = append(lists[each.list], each.first)
		}
	}
	return listed(lists)
}

func cameThrough(ran event, state map[string]string) bool {
	for _, each := range ran.rows {
		data, there := state[each.name]
		if !there || data != ran.data || !strings.Contains(state[".log"], each.bytes) {
			return false
		}
	}
	return true
}

// goesOn fails if the next build does not make what is left to make, or does not come to what a build anew makes.
func (s scene) goesOn(t *testing.T, f *builder.Files, m *model, what string) {
	t.Helper()
	f.Room(65536)
	twin := stocked(t, flat(m.now())...)
	if got, want := built(t, f, s.text), s.toldFrom(m.now()); got != want {
		t.Fatalf("%s: the next Build: %s, want %s", what, got, want)
	}
	modelBuilt(twin, manifestOf(t, s.text), nil)
	sameFiles(t, f, twin, what)
	s.isMade(t, f, what)
}

// isMade fails if something is still to be made, or is not as a build anew makes it.
func (s scene) isMade(t *testing.T, f *builder.Files, what string) {
	t.Helper()
	lists := map[string][]string{}
	for _, each := range s.events {
		list := strings.Replace(each.list, "ran", "clean", 1)
		lists[list] = append(lists[list], each.first)
		for _, made := range each.rows {
			reads(t, f, made.name, each.data)
		}
	}
	was := all(t, f)
	if got, want := built(t, f, s.text), listed(lists); got != want {
		t.Fatalf("%s: the Build behind it: %s, want %s", what, got, want)
	}
	holds(t, f, was...)
	sameAnew(t, f, s.text, what)
}

// flat tells files as a list: a name and its data, by turns.
func flat(state map[string]string) []string {
	var list []string
	for name, data := range state {
		list = append(list, name, data)
	}
	return list
}
