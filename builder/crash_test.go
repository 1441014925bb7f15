package builder_test

import (
	"fmt"
	"math"
	"math/rand"
	"slices"
	"strings"
	"testing"

	"builder/builder"
)

// A fuse at each operation of a build: the report tells what was done till then, and that is there, and no more.
func TestFuseAtEachOperation(t *testing.T) {
	for _, s := range scenes() {
		for n := 1; n <= s.operations(); n++ {
			f, m := s.stop(t, 65536, n)
			if !m.down {
				t.Fatalf("%s: operation %d does not go down", s.what, n)
			}
			// Down they stay, and nothing more is done.
			answers(t, "Sync behind it", f.Sync(), builder.ErrDown)
			tells(t, f, s.text+"\nbuild z: c", "z", "! down")
			holds(t, f, flat(m.now())...)
		}
		// A fuse that is longer than the build burns on behind it.
		f, m := s.stop(t, 65536, s.operations()+1)
		if m.down {
			t.Fatalf("%s: it goes down behind its last operation", s.what)
		}
		answers(t, "Sync behind all", f.Sync(), builder.ErrDown)
	}
}

// Without the fuse all goes through, and what is built is what is built anew.
func TestScenesWithoutAFault(t *testing.T) {
	for _, s := range scenes() {
		f, _ := s.stop(t, 65536, 0)
		s.isMade(t, f, s.what)
	}
}

// cutsOf tells every cut that makes a difference, behind so many operations that are kept, and those about them.
func cutsOf(done []deed, keep int) []int {
	cuts := []int{math.MinInt, -1, 0, math.MaxInt}
	if keep = max(keep, 0); keep < len(done) {
		for cut := range len(done[keep].data) + 1 {
			cuts = append(cuts, cut+1)
		}
	}
	return cuts
}

// A crash behind each operation, with each keep and each cut: the next build makes what is left to make, and all comes to what a build anew makes.
func TestCrashBehindEachOperation(t *testing.T) {
	for _, s := range scenes() {
		for n := 1; n <= s.operations()+1; n++ {
			_, at := s.stop(t, 65536, n)
			for keep := -1; keep <= len(at.done)+1; keep++ {
				for _, cut := range cutsOf(at.done, keep) {
					what := fmt.Sprintf("%s, fuse %d, Crash(%d, %d)", s.what, n, keep, cut)
					f, m := s.stop(t, 65536, n)
					f.Crash(keep, cut)
					m.crash(keep, cut)
					holds(t, f, flat(m.now())...)
					s.goesOn(t, f, m, what)
				}
			}
		}
	}
}

// A crash behind a crash: while the next build mends what the first one left, it goes down at each of its operations too.
func TestCrashBehindACrash(t *testing.T) {
	cuts := []int{-1, 0, 5, 40, 75}
	for _, s := range scenes() {
		for n := 1; n <= s.operations(); n++ {
			for i, cut := range cuts {
				keep := i % 3
				for again := 1; ; again++ {
					what := fmt.Sprintf("%s, fuse %d, Crash(%d, %d), fuse %d", s.what, n, keep, cut, again)
					f, _ := s.stop(t, 65536, n)
					f.Crash(keep, cut)
					f.Fuse(again)
					told, err := builder.Build(f, s.text)
					if err == nil {
						break
					}
					answers(t, what, err, builder.ErrDown)
					f.Crash((again+i)%3-1, cuts[(again+i)%len(cuts)])
					then, err := builder.Build(f, s.text)
					answers(t, what, err, nil)
					// What was told as made is safe.
					for _, first := range slices.Concat(told.Ran, told.Clean) {
						if !slices.Contains(then.Clean, first) {
							t.Fatalf("%s: %s, then %s", what, reported(told), reported(then))
						}
					}
					s.isMade(t, f, what)
				}
			}
		}
	}
}

// used fails if a build does not tell what is wanted in just so many operations.
func used(t *testing.T, f *builder.Files, text, want string, operations int) {
	t.Helper()
	f.Fuse(operations + 1)
	tells(t, f, text, "", want)
	answers(t, "the operation behind it", f.Sync(), builder.ErrDown)
	f.Crash(0, -1)
}

// A log that a crash cut short: what is whole is read, what is not goes, and the edge is made again unless all its records are whole.
func TestLogCutShort(t *testing.T) {
	text := behindRule("build o p: c a")
	made := signed("cat a", "a", "one")
	was := head + entry("x", summed("1"), "1")
	o, p := entry("o", made, "one"), entry("p", made, "one")
	for cut := 0; cut <= len(o+p)+1; cut++ {
		f := stocked(t, "a", "one", ".log", was)
		f.Fuse(5)
		tells(t, f, text, "", "! down")
		f.Crash(0, cut)
		holds(t, f, "a", "one", "o", "one", "p", "one", ".log", was+(o + p)[:min(cut, len(o+p))])
		switch {
		case cut == 0:
			used(t, f, text, "ran o", 5)
			reads(t, f, ".log", was+o+p)
		case cut < len(o):
			used(t, f, text, "ran o", 9)
			reads(t, f, ".log", was+o+p)
		case cut == len(o):
			used(t, f, text, "ran o", 5)
			reads(t, f, ".log", was+o+o+p)
		case cut < len(o+p):
			used(t, f, text, "ran o", 9)
			reads(t, f, ".log", was+o+o+p)
		default:
			used(t, f, text, "clean o", 0)
			reads(t, f, ".log", was+o+p)
		}
		used(t, f, text, "clean o", 0)
		reads(t, f, "p", "one")
		if got := strings.Join(f.Names(), " "); got != ".log a o p" {
			t.Fatalf("cut %d: the files are then %s", cut, got)
		}
	}
}

// A new log that a crash cut short, or that was not renamed, takes no part: the old one is still whole.
func TestNewLogCutShort(t *testing.T) {
	good := exampleRecord()
	start := []string{"a", "one", "b", "two", "o", "onetwo"}
	for _, c := range []struct {
		log, want  string
		operations int
	}{
		{head + good + "left", "clean o", 4},
		{head + strings.Repeat(good, 11), "clean o", 4},
		{good, "ran o", 8},
	} {
		anew := head + good
		if c.want == "ran o" {
			anew = head
		}
		for cut := 0; cut <= len(anew); cut++ {
			f := stocked(t, append(start, ".log", c.log)...)
			f.Fuse(2)
			built(t, f, example)
			f.Crash(0, cut)
			holds(t, f, append(start, ".log", c.log, ".log.new", anew[:cut])...)
			used(t, f, example, c.want, c.operations)
			holds(t, f, append(start, ".log", head+good)...)
		}
		for keep := range 2 {
			f := stocked(t, append(start, ".log", c.log)...)
			f.Fuse(4)
			built(t, f, example)
			f.Crash(keep, 0)
			if keep == 0 {
				holds(t, f, append(start, ".log", c.log, ".log.new", anew)...)
			} else {
				holds(t, f, append(start, ".log", anew)...)
			}
			built(t, f, example)
			holds(t, f, append(start, ".log", head+good)...)
		}
	}
}

// A crash may take an in that was not safe, too: what counts is what is there then.
func TestCrashThatTakesAnIn(t *testing.T) {
	good := exampleRecord()
	record := func(a string) string {
		return entry("o", signed("cat a b", "a", a, "b", "two"), a+"two")
	}
	for _, c := range []struct {
		fuse, keep, cut int
		want, a, log    string
	}{
		{1, 0, -1, "clean o", "one", good},
		{1, 0, 0, "ran o", "", good + record("")},
		{1, 0, 2, "ran o", "ON", good + record("ON")},
		{1, 0, 4, "ran o", "ONES", good + record("ONES")},
		{1, 1, -1, "ran o", "ONES", good + record("ONES")},
		{1, 1, 2, "ran o", "ONES", good + record("ONES")},
		{2, 0, -1, "clean o", "one", good},
		{2, 0, 3, "ran o", "ONE", good + record("ONE")},
		{2, 1, -1, "ran o", "ONES", good + record("ONES")},
		{2, 1, 0, "ran o", "ONES", good + record("ONES")},
		{2, 1, 7, "ran o", "ONES", good + record("ONES")},
		{2, 2, -1, "ran o", "ONES", good + record("ONES")},
		{3, 0, -1, "ran o", "ONES", good + record("ONES")},
		{3, 0, 0, "ran o", "ONES", good + record("ONES")},
		{4, 0, -1, "ran o", "ONES", good + record("ONES")},
		{4, 0, 0, "ran o", "ONES", good + record("ONES")},
		{4, 0, 1, "ran o", "ONES", good + record("ONES")},
		{4, 0, 70, "ran o", "ONES", good + record("ONES")},
		{4, 0, 71, "clean o", "ONES", good + record("ONES")},
		{4, 1, -1, "clean o", "ONES", good + record("ONES")},
	} {
		f := stocked(t, "a", "one", "b", "two", "o", "onetwo", ".log", head+good)
		answers(t, "Write", f.Write("a", "ONES"), nil)
		f.Fuse(c.fuse)
		tells(t, f, example, "", "! down")
		f.Crash(c.keep, c.cut)
		tells(t, f, example, "", c.want)
		holds(t, f, "a", c.a, "b", "two", "o", c.a+"two", ".log", head+c.log)
	}
}

// An in that is written back, behind a crash that left its out half made: the record of then does not count for the out of now.
func TestInWrittenBack(t *testing.T) {
	good := exampleRecord()
	for fuse := 2; fuse <= 4; fuse++ {
		for keep := range 2 {
			for _, cut := range []int{-1, 0, 3, 6} {
				f := stocked(t, "a", "one", "b", "two", "o", "onetwo", ".log", head+good)
				answers(t, "Write", f.Write("a", "ONES"), nil)
				answers(t, "Sync", f.Sync(), nil)
				f.Fuse(fuse)
				tells(t, f, example, "", "! down")
				f.Crash(keep, cut)
				answers(t, "Write", f.Write("a", "one"), nil)
				o, _ := f.Read("o")
				want := "ran o"
				if o == "onetwo" {
					want = "clean o"
				}
				tells(t, f, example, "", want)
				reads(t, f, "o", "onetwo")
			}
		}
	}
}

// Files that are down already, or whose fuse is lit, when a build begins: what asks for no operation is told all the same.
func TestBuildOfFilesThatAreDown(t *testing.T) {
	text := behindRule("build n: c none\nbuild o: c a\nbuild m: c n\nbuild p: c a b\ndefault n m o p")
	o := entry("o", signed("cat a", "a", "one"), "one")
	for _, c := range []struct{ log, want string }{
		{"", "! down"},
		{head + o + "left", "! down"},
		{head + o, "clean o, failed n, blocked m! down"},
		{head, "failed n, blocked m! down"},
	} {
		f := stocked(t, "a", "one", "b", "two", "o", "one", ".log", c.log)
		was := all(t, f)
		f.Fuse(1)
		for range 3 {
			tells(t, f, text, "", c.want)
			holds(t, f, was...)
		}
		f.Crash(9, 9)
		holds(t, f, was...)
		if got := built(t, f, text); !strings.Contains(got, "failed n, blocked m") || strings.Contains(got, "!") {
			t.Fatalf("Build behind the crash: %s", got)
		}
		tells(t, f, text, "", "clean o p, failed n, blocked m")
	}
}

// The lists of a report that comes with an error are the caller's like any other.
func TestReportBesideAnErrorIsTheCallers(t *testing.T) {
	text := behindRule("build n: c none\nbuild m: c n\nbuild k: c a\nbuild o: c a\nbuild p: c a\ndefault n m k o p")
	k := entry("k", signed("cat a", "a", "one"), "one")
	f := stocked(t, "a", "one", "k", "one", ".log", head+k)
	targets := []string{"n", "m", "k", "o", "p"}
	f.Fuse(5)
	r, err := builder.Build(f, text, targets...)
	answers(t, "Build", err, builder.ErrDown)
	if got := reported(r); got != "ran o, clean k, failed n, blocked m" {
		t.Fatalf("Build: %s", got)
	}
	for _, list := range [][]string{r.Ran, r.Clean, r.Failed, r.Blocked} {
		list[0] = "changed"
		_ = append(list, "more")
	}
	if !slices.Equal(targets, []string{"n", "m", "k", "o", "p"}) {
		t.Errorf("the targets were changed: %q", targets)
	}
	f.Crash(0, -1)
	tells(t, f, text, "", "ran p, clean k o, failed n, blocked m")
}

// crashes builds by chance, with files that go down or are full, and crashes each time; what is built behind it is what is built anew.
func crashes(t *testing.T, r *rand.Rand, what string) {
	t.Helper()
	f := stocked(t, "a", "A", "b", "B")
	texts := []string{plant(r), plant(r)}
	for step := range 12 {
		what := fmt.Sprintf("%s, step %d", what, step)
		for range r.Intn(3) {
			f.Write([]string{"a", "b", "d", "o0", "o1"}[r.Intn(5)], strings.Repeat("z", r.Intn(5)))
		}
		f.Fuse(r.Intn(25))
		if r.Intn(4) == 0 {
			f.Room(r.Intn(1200))
		}
		told := built(t, f, texts[r.Intn(2)])
		f.Crash(r.Intn(5)-1, r.Intn(150)-1)
		f.Room(65536)
		sameAnew(t, f, texts[r.Intn(2)], what+": "+told+", then")
	}
}

func TestCrashesByChance(t *testing.T) {
	for i := range 600 {
		crashes(t, rand.New(rand.NewSource(int64(i))), fmt.Sprint("chance ", i))
	}
}
