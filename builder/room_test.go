package builder_test

import (
	"fmt"
	"strings"
	"testing"
)

// most tells how much room a scene needs in all.
func (s scene) most(t *testing.T) int {
	t.Helper()
	_, m := s.begin(t, 65536, 0)
	most := 0
	for _, each := range s.events {
		if each.deed.call == "" {
			continue
		}
		answers(t, "the model's operation", m.operate(each.deed), nil)
		total := 0
		for _, data := range m.now() {
			total += len(data)
		}
		most = max(most, total)
	}
	return most
}

// Each room from nothing on: a build ends at the first Write or Append for which there is none, and what was done till then is told, and is there, and no more.
func TestEachRoom(t *testing.T) {
	for _, s := range scenes() {
		most := s.most(t)
		full := map[string]int{}
		for room := range most {
			f, m := s.stop(t, room, 0)
			full[fmt.Sprintf("%q", all(t, f))]++
			// Once more it ends where it ended, unless it had come to something: then it goes on from there.
			twin := stocked(t, flat(m.now())...)
			twin.Room(room)
			got, want := built(t, f, s.text), modelBuilt(twin, manifestOf(t, s.text), nil)
			if got != want {
				t.Fatalf("%s, room %d: once more: %s, want %s", s.what, room, got, want)
			}
			sameFiles(t, f, twin, s.what)
		}
		if len(full) != s.peaks {
			t.Errorf("%s: %d of its Writes and Appends were without room, want %d", s.what, len(full), s.peaks)
		}
		f, _ := s.stop(t, most, 0)
		s.isMade(t, f, s.what)
	}
}

// With room again the build goes on from where it ended, also behind a crash.
func TestRoomAgain(t *testing.T) {
	for _, s := range scenes() {
		for room := 0; room < s.most(t); room += 1 + room/40 {
			f, m := s.stop(t, room, 0)
			s.goesOn(t, f, m, fmt.Sprintf("%s, room %d", s.what, room))
			for keep := range len(m.done) + 1 {
				for _, cut := range []int{-1, 0, 2} {
					f, m := s.stop(t, room, 0)
					f.Crash(keep, cut)
					m.crash(keep, cut)
					holds(t, f, flat(m.now())...)
					s.goesOn(t, f, m, fmt.Sprintf("%s, room %d, Crash(%d, %d)", s.what, room, keep, cut))
				}
			}
		}
	}
}

// No room and a fuse: the one that comes first ends it; of one operation ErrRoom, and the fuse does not burn.
func TestRoomAndFuse(t *testing.T) {
	for _, s := range scenes() {
		most := s.most(t)
		for room := 0; room <= most; room += 1 + room/20 {
			for n := 1; n <= s.operations()+1; n++ {
				f, m := s.stop(t, room, n)
				for range n {
					answers(t, "Sync behind it", f.Sync(), m.operate(deed{call: "sync"}))
				}
			}
		}
	}
}

// A log that was cut short, and no room to make it anew: nothing is done, until there is room.
func TestNoRoomForTheLogAnew(t *testing.T) {
	good := exampleRecord()
	start := []string{"a", "one", "b", "two", "o", "onetwo", ".log", head + good + good[:30]}
	total := len("one" + "two" + "onetwo" + head + good + good[:30])
	f := stocked(t, start...)
	for _, room := range []int{0, total, total + len(head+good) - 1} {
		f.Room(room)
		tells(t, f, example, "", "! room")
		holds(t, f, start...)
	}
	// A new log that was left makes room for the next.
	f.Room(total + len(head+good))
	answers(t, "Write", f.Write(".log.new", strings.Repeat("n", len(head+good))), nil)
	tells(t, f, example, "", "clean o")
	holds(t, f, "a", "one", "b", "two", "o", "onetwo", ".log", head+good)
}

// An out that becomes smaller makes room for its record.
func TestRoomThatAnOutMakes(t *testing.T) {
	text := behindRule("build o: c a")
	record := entry("o", signed("cat a", "a", "one"), "one")
	f := stocked(t, "a", "one", "o", strings.Repeat("o", 3+len(record)), ".log", head)
	f.Room(3 + len(head) + 3 + len(record))
	tells(t, f, text, "", "ran o")
	f = stocked(t, "a", "one", "o", strings.Repeat("o", 3+len(record)), ".log", head)
	f.Room(3 + len(head) + 3 + len(record) - 1)
	tells(t, f, text, "", "! room")
	holds(t, f, "a", "one", "o", "one", ".log", head)
	// What was written is safe: it is ahead of the record.
	f.Crash(0, -1)
	holds(t, f, "a", "one", "o", "one", ".log", head)
}
