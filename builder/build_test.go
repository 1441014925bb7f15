package builder_test

import (
	"errors"
	"fmt"
	"slices"
	"strings"
	"testing"

	"builder/builder"
)

// reported tells a report as text: each list that is not empty.
func reported(r builder.Report) string {
	var each []string
	for i, list := range [][]string{r.Ran, r.Clean, r.Failed, r.Blocked} {
		if len(list) > 0 {
			each = append(each, []string{"ran ", "clean ", "failed ", "blocked "}[i]+strings.Join(list, " "))
		}
	}
	return strings.Join(each, ", ")
}

// built tells what Build answers: the report, and behind it the reason.
func built(t *testing.T, f *builder.Files, text string, targets ...string) string {
	t.Helper()
	r, err := builder.Build(f, text, targets...)
	told := reported(r)
	if err == nil {
		return told
	}
	var fault *builder.Fault
	if errors.As(err, &fault) {
		return fmt.Sprint(told, "! ", reasonName(err), " at ", fault.At)
	}
	return told + "! " + reasonName(err)
}

// tells fails if a build of targets (blanks between; "": none) does not tell what is wanted.
func tells(t *testing.T, f *builder.Files, text, targets, want string) {
	t.Helper()
	if got := built(t, f, text, strings.Fields(targets)...); got != want {
		t.Fatalf("Build(%q, %s): %s, want %s", text, targets, got, want)
	}
}

// reads fails if a file is not as wanted.
func reads(t *testing.T, f *builder.Files, name, want string) {
	t.Helper()
	if got, err := f.Read(name); err != nil || got != want {
		t.Fatalf("Read(%q): %q, %v, want %q", name, got, err, want)
	}
}

// all tells every file, a name and its data, by turns.
func all(t *testing.T, f *builder.Files) []string {
	t.Helper()
	var each []string
	for _, name := range f.Names() {
		data, err := f.Read(name)
		answers(t, "Read", err, nil)
		each = append(each, name, data)
	}
	return each
}

func TestBuildExamples(t *testing.T) {
	f := stocked(t, "a", "one", "b", "two")
	tells(t, f, example, "", "ran o")
	reads(t, f, "o", "onetwo")
	tells(t, f, example, "", "clean o")
	answers(t, "Write", f.Write("a", "1"), nil)
	tells(t, f, example, "", "ran o")
	reads(t, f, "o", "1two")

	f = stocked(t, "b", "two")
	tells(t, f, example+"\nbuild p: c o", "", "failed o, blocked p")
	holds(t, f, "b", "two", ".log", head)

	f = stocked(t, "a", "one", "b", "two")
	f.Fuse(2)
	tells(t, f, example, "", "! down")
	holds(t, f, "a", "one", "b", "two", ".log.new", head)
	f.Crash(0, 0)
	tells(t, f, example, "", "ran o")

	f = builder.NewFiles(10)
	answers(t, "Write", f.Write("a", "one"), nil)
	answers(t, "Write", f.Write("b", "two"), nil)
	tells(t, f, example, "", "! room")
	holds(t, f, "a", "one", "b", "two")
}

// As Parse refuses, then as Order refuses; nothing is written then, of files in whatever state, and no fuse burns.
func TestBuildThatIsRefused(t *testing.T) {
	cycle := behindRule("build o: c o\nbuild p: c a")
	for _, c := range []struct{ text, targets, want string }{
		{"bad", "", "! syntax at 1"},
		{"bad", "nope", "! syntax at 1"},
		{strings.Repeat("#", 4001), "o", "! syntax at 0"},
		{behindRule("build o: d a"), "", "! rule at 3"},
		{behindRule("build o: c a\nbuild o: c a"), "o", "! twice at 4"},
		{behindRule("\nbuild .log: c a"), "", "! name at 4"},
		{behindRule("build o: c .log.new"), "", "! name at 3"},
		{cycle + "\nx", "", "! syntax at 5"},
		{cycle, "", "! cycle"},
		{cycle, "p", "! cycle"},
		{cycle, "nope", "! cycle"},
		{behindRule("build o: c a"), "nope", "! target"},
		{behindRule("build o: c a"), "o nope", "! target"},
		{behindRule("build o: c a"), "a", "! target"},
		{behindRule("build o: c a"), ".log", "! target"},
		{behindRule("build o: c a\ndefault nope"), "", "! target"},
		{"", "o", "! target"},
	} {
		for _, log := range [][]string{nil, {".log", ""}, {".log", "spoilt"}, {".log", head + strings.Repeat(exampleRecord(), 40) + "left"}} {
			f := stocked(t, append(log, "a", "one")...)
			was := all(t, f)
			tells(t, f, c.text, c.targets, c.want)
			holds(t, f, was...)
			f.Fuse(1)
			tells(t, f, c.text, c.targets, c.want)
			answers(t, "Sync behind it", f.Sync(), builder.ErrDown)
			tells(t, f, c.text, c.targets, c.want)
			f.Crash(0, -1)
			f.Room(0)
			tells(t, f, c.text, c.targets, c.want)
			holds(t, f, was...)
		}
	}
}

func TestBuildOfTargets(t *testing.T) {
	lines := "build o: c a\nbuild p: c o\nbuild q: c a\nbuild r: c q p"
	f := stocked(t, "a", "one")
	tells(t, f, behindRule(lines), "q", "ran q")
	tells(t, f, behindRule(lines), "p q", "ran o p, clean q")
	tells(t, f, behindRule(lines), "q o q", "clean q o")
	tells(t, f, behindRule(lines+"\ndefault o"), "", "clean o")
	tells(t, f, behindRule(lines), "", "ran r, clean q o p")
	reads(t, f, "r", "oneone")
	f = stocked(t)
	tells(t, f, "", "", "")
	holds(t, f, ".log", head)
}

// Each reason to be blocked comes ahead of each to fail, and each of these ahead of being clean, where they come together.
func TestBlockedAndFailed(t *testing.T) {
	bad := "rule f\n command = fail\n"
	for _, c := range []struct{ lines, want string }{
		{"build o: c none", "failed o"},
		{"build o: c a none", "failed o"},
		{"build o: c a | none", "failed o"},
		{"build o: c a || none", "failed o"},
		{"build o x | y: c none", "failed o"},
		{"build o: f", "failed o"},
		{"build o: f a", "failed o"},
		{"build o: f\nbuild p: c o", "failed o, blocked p"},
		{"build o: f\nbuild p: c a | o", "failed o, blocked p"},
		{"build o: f\nbuild p: c a || o", "failed o, blocked p"},
		{"build o: f\nbuild p: c o none", "failed o, blocked p"},
		{"build o: f\nbuild p: c none || o", "failed o, blocked p"},
		{"build o: f\nbuild p: f o", "failed o, blocked p"},
		{"build x | o: f\nbuild p: c o", "failed x, blocked p"},
		{"build o: f\nbuild p q: c o\nbuild r: c a || q\nbuild s: c r", "failed o, blocked p r s"},
		{"build o: f\nbuild p: c o\nbuild q: c a\nbuild r: f a\nbuild s: c q p", "ran q, failed r o, blocked p s"},
		{"build o: c a\nbuild p: c o none\nbuild q: c o", "ran o q, failed p"},
		{"build p: c o\nbuild o: c none", "failed o, blocked p"},
	} {
		f := stocked(t, "a", "one")
		tells(t, f, behindRule(bad+c.lines), "", c.want)
		tells(t, f, behindRule(bad+c.lines), "", strings.Replace(c.want, "ran", "clean", 1))
	}
}

// Files that are there from an earlier build do not stand in for what was not made now.
func TestBlockedThoughFilesAreThere(t *testing.T) {
	text := behindRule("build o: c a\nbuild p: c o\nbuild q: c b || p")
	f := stocked(t, "a", "one", "b", "two")
	tells(t, f, text, "", "ran o p q")
	was := all(t, f)
	answers(t, "Remove", f.Remove("a"), nil)
	tells(t, f, text, "", "failed o, blocked p q")
	answers(t, "Write", f.Write("a", "one"), nil)
	holds(t, f, was...)
	tells(t, f, text, "", "clean o p q")
	bad := strings.Replace(text, "build o: c", "rule f\n command = fail\nbuild o: f", 1)
	tells(t, f, bad, "", "failed o, blocked p q")
	holds(t, f, was...)
	tells(t, f, bad, "q", "failed o, blocked p q")
}

// change is something done to files or to a manifest between two builds, and what the second tells.
type change struct {
	what string
	do   func(f *builder.Files) error
	text string // "": the same manifest
	want string
}

func TestClean(t *testing.T) {
	const first = "rule r\n command = cat $in $v\nv = a\nbuild o p: r a b | i j || k\n"
	nothing := func(*builder.Files) error { return nil }
	write := func(name, data string) func(*builder.Files) error {
		return func(f *builder.Files) error { return f.Write(name, data) }
	}
	for _, c := range []change{
		{"nothing", nothing, "", "clean o"},
		{"the same data", write("a", "A"), "", "clean o"},
		{"an in", write("b", "BB"), "", "ran o"},
		{"an in that is nothing now", write("a", ""), "", "ran o"},
		{"an implicit one", write("j", "JJ"), "", "ran o"},
		{"an order one", write("k", "KK"), "", "clean o"},
		{"a file beside", write("x", "X"), "", "clean o"},
		{"the first out", write("o", "stray"), "", "ran o"},
		{"the further out", write("p", "stray"), "", "ran o"},
		{"the first out is not there", func(f *builder.Files) error { return f.Remove("o") }, "", "ran o"},
		{"the further out is not there", func(f *builder.Files) error { return f.Remove("p") }, "", "ran o"},
		{"an in is not there", func(f *builder.Files) error { return f.Remove("b") }, "", "failed o"},
		{"an order one is not there", func(f *builder.Files) error { return f.Remove("k") }, "", "failed o"},
		{"the log is not there", func(f *builder.Files) error { return f.Remove(".log") }, "", "ran o"},
		{"the outs change places", nothing, strings.Replace(first, "o p", "p o", 1), "clean p"},
		{"an out is implicit", nothing, strings.Replace(first, "o p", "o | p", 1), "clean o"},
		{"an out fewer", nothing, strings.Replace(first, "o p", "p", 1), "clean p"},
		{"an out more", nothing, strings.Replace(first, "o p", "o q p", 1), "ran o"},
		{"an out more that is there", write("q", "ABA"), strings.Replace(first, "o p", "o q p", 1), "ran o"},
		{"another rule, the same command", nothing, strings.ReplaceAll(strings.Replace(first, "rule r", "rule s", 1), ": r", ": s"), "clean o"},
		{"another command", nothing, strings.Replace(first, "v = a", "v = b", 1), "ran o"},
		{"another command that makes the same", nothing, strings.Replace(first, "cat $in", "cat  $in", 1), "ran o"},
		{"a command that fails", nothing, strings.Replace(first, "cat", "cart", 1), "failed o"},
		{"a rule's variable beside", nothing, first + " w = 1\n", "clean o"},
		{"implicit ones change places", nothing, strings.Replace(first, "i j", "j i", 1), "ran o"},
		{"an implicit one fewer", nothing, strings.Replace(first, "i j", "j", 1), "ran o"},
		{"an implicit one twice", nothing, strings.Replace(first, "i j", "i j j", 1), "ran o"},
		{"an implicit one more, of the same data", write("x", "J"), strings.Replace(first, "i j", "i x", 1), "ran o"},
		{"an order one more", nothing, strings.Replace(first, "|| k", "|| k a", 1), "clean o"},
		{"no order one", nothing, strings.Replace(first, "|| k", "", 1), "clean o"},
		{"an in becomes an implicit one, the command stays", nothing, strings.Replace(strings.Replace(first, "a b |", "a | b", 1), "$in", "$in b", 1), "clean o"},
	} {
		f := stocked(t, "a", "A", "b", "B", "i", "I", "j", "J", "k", "K")
		tells(t, f, first, "", "ran o")
		reads(t, f, "p", "ABA")
		answers(t, c.what, c.do(f), nil)
		text := c.text
		if text == "" {
			text = first
		}
		if got := built(t, f, text); got != c.want {
			t.Errorf("%s: %s, want %s", c.what, got, c.want)
		}
	}
}

// A file that is empty is there; one that is not there is not clean, though it would be empty.
func TestCleanOfAnEmptyFile(t *testing.T) {
	text := behindRule("build o p: c e\nbuild q: c o || p")
	f := stocked(t, "e", "")
	tells(t, f, text, "", "ran o q")
	tells(t, f, text, "", "clean o q")
	for _, out := range []string{"o", "p"} {
		answers(t, "Remove", f.Remove(out), nil)
		tells(t, f, text, "", "ran o, clean q")
		reads(t, f, out, "")
	}
	answers(t, "Remove", f.Remove("e"), nil)
	tells(t, f, text, "", "failed o, blocked q")
}

// A signature is the Sum of the command, a byte 0, and of each in and implicit one its name, a byte 0 and its Sum.
func TestSignature(t *testing.T) {
	files := []string{"a", "one", "b", "", "z/z", "\x00\xff"}
	for _, c := range []struct{ line, signature string }{
		{"build o: c", signed("cat ")},
		{"build o: c a", signed("cat a", "a", "one")},
		{"build o: c b", signed("cat b", "b", "")},
		{"build o: c a b", signed("cat a b", "a", "one", "b", "")},
		{"build o: c b a", signed("cat b a", "b", "", "a", "one")},
		{"build o: c b | z/z a", signed("cat b", "b", "", "z/z", "\x00\xff", "a", "one")},
		{"build o: c a a | a", signed("cat a a", "a", "one", "a", "one", "a", "one")},
		{"build o: c | a || b", signed("cat ", "a", "one")},
		{"build o: c || a", signed("cat ")},
	} {
		f := stocked(t, append(files, "o", "as told", ".log", head+entry("o", c.signature, "as told"))...)
		tells(t, f, behindRule(c.line), "", "clean o")
		reads(t, f, "o", "as told")
		answers(t, "Write", f.Write(".log", head), nil)
		tells(t, f, behindRule(c.line), "", "ran o")
		made, _ := f.Read("o")
		reads(t, f, ".log", head+entry("o", c.signature, made))
	}
	// Being clean comes ahead of a command that fails.
	f := stocked(t, "o", "old", ".log", head+entry("o", signed("no"), "old"))
	tells(t, f, "rule f\n command = no\nbuild o: f", "", "clean o")
	answers(t, "Write", f.Write("o", "other"), nil)
	tells(t, f, "rule f\n command = no\nbuild o: f", "", "failed o")
}

// Each out has to have the record: one that another edge's signature stands in is not clean.
func TestCleanOfEachOut(t *testing.T) {
	made := signed("cat a", "a", "one")
	for log, want := range map[string]string{
		entry("o", made, "one") + entry("p", made, "one"):                                    "clean o",
		entry("p", made, "one") + entry("o", made, "one"):                                    "clean o",
		entry("o", made, "one"):                                                              "ran o",
		entry("p", made, "one"):                                                              "ran o",
		entry("o", made, "one") + entry("q", made, "one"):                                    "ran o",
		entry("o", made, "one") + entry("p", summed("x"), "one"):                             "ran o",
		entry("o", summed("x"), "one") + entry("p", made, "one"):                             "ran o",
		entry("o", made, "one") + entry("p", made, "two"):                                    "ran o",
		entry("o", made, "two") + entry("p", made, "one"):                                    "ran o",
		entry("o", made, "one") + entry("p", made, "one") + entry("p", summed("x"), "one"):   "ran o",
		entry("o", summed("x"), "x") + entry("p", made, "one") + entry("o", made, "one"):     "clean o",
		entry("o", made, "one") + entry("p", made, "one") + entry("zz", summed("x"), "none"): "clean o",
	} {
		f := stocked(t, "a", "one", "o", "one", "p", "one", ".log", head+log)
		tells(t, f, behindRule("build o p: c a"), "", want)
	}
	zero := strings.Repeat("\x00", 32)
	f := stocked(t, "o", "", ".log", head+framed("\x01o"+zero+zero))
	tells(t, f, behindRule("build o: c"), "", "ran o")
}

// A command reads its ins and implicit ones alone.
func TestWhatACommandMayRead(t *testing.T) {
	for _, c := range []struct{ line, want, made string }{
		{"build o: r a", "ran o", "one"},
		{"build o: r b | a", "ran o", "one"},
		{"build o: r | a", "ran o", "one"},
		{"build o: r a || a", "ran o", "one"},
		{"build o: r", "failed o", "old"},
		{"build o: r b", "failed o", "old"},
		{"build o: r b || a", "failed o", "old"},
		{"build o: r\n w = o", "failed o", "old"},
		{"build o: r\n w = .log", "failed o", "old"},
		{"build o: r a\n w = .log", "failed o", "old"},
		{"build o: r a b\n w = b a b", "ran o", "twoonetwo"},
		{"build o: r a\n w = none", "failed o", "old"},
	} {
		f := stocked(t, "a", "one", "b", "two", "o", "old", ".log", head)
		text := "rule r\n command = cat $w\nw = a\n" + c.line
		tells(t, f, text, "", c.want)
		reads(t, f, "o", c.made)
	}
}

// A command that fails leaves its outs and the log as they are.
func TestCommandThatFails(t *testing.T) {
	most, more := strings.Repeat("m", 4000), strings.Repeat("m", 4001)
	f := stocked(t, "a", most, "o", "old", "p", "older", ".log", head)
	text := behindRule("build o p: c a")
	tells(t, f, text, "", "ran o")
	reads(t, f, "p", most)
	answers(t, "Write", f.Write("a", more), nil)
	was := all(t, f)
	tells(t, f, text, "", "failed o")
	tells(t, f, "rule r\n command = \nbuild o p: r a", "", "failed o")
	tells(t, f, "rule r\n command = hash\nbuild o p: r a", "", "failed o")
	holds(t, f, was...)
	answers(t, "Write", f.Write("a", most), nil)
	tells(t, f, text, "", "clean o")
}

// What an edge makes is there for those behind it; where the same comes out, they stay clean.
func TestChain(t *testing.T) {
	text := "rule c\n command = cat $in\nrule e\n command = echo $w\nrule h\n command = hash $out $in\n" +
		"build last: h mid beside\nbuild mid: c head/er low\nbuild low: e | a\n w = same  words\nbuild head/er: c b\nbuild beside: c b || last0\nbuild last0: c a"
	f := stocked(t, "a", "one", "b", "two")
	tells(t, f, text, "", "ran head/er low mid last0 beside last")
	reads(t, f, "mid", "twosame words\n")
	reads(t, f, "last", hashed("last", "twosame words\n", "two"))
	answers(t, "Write", f.Write("a", "other"), nil)
	tells(t, f, text, "", "ran low last0, clean head/er mid beside last")
	answers(t, "Write", f.Write("b", "2"), nil)
	tells(t, f, text, "", "ran head/er mid beside last, clean low last0")
	reads(t, f, "last", hashed("last", "2same words\n", "2"))
	answers(t, "Write", f.Write("mid", "stray"), nil)
	tells(t, f, text, "", "ran mid, clean head/er low last0 beside last")
}

// What an edge does, one operation after the other: seen where the files go down, and in what is safe then.
func TestOperationsInOrder(t *testing.T) {
	text := behindRule("build o | p: c a")
	made := signed("cat a", "a", "one")
	log := head + entry("o", made, "one") + entry("p", made, "one")
	for i, c := range []struct{ now, safe []string }{
		{nil, nil},
		{[]string{".log.new", head}, nil},
		{[]string{".log.new", head}, []string{".log.new", head}},
		{[]string{".log", head}, []string{".log.new", head}},
		{[]string{".log", head}, []string{".log", head}},
		{[]string{".log", head, "o", "one"}, []string{".log", head}},
		{[]string{".log", head, "o", "one", "p", "one"}, []string{".log", head}},
		{[]string{".log", head, "o", "one", "p", "one"}, []string{".log", head, "o", "one", "p", "one"}},
		{[]string{".log", log, "o", "one", "p", "one"}, []string{".log", head, "o", "one", "p", "one"}},
		{[]string{".log", log, "o", "one", "p", "one"}, []string{".log", log, "o", "one", "p", "one"}},
	} {
		f := stocked(t, "a", "one")
		f.Fuse(i + 1)
		want := "! down"
		if i == 9 {
			want = "ran o"
		}
		tells(t, f, text, "", want)
		holds(t, f, append(c.now, "a", "one")...)
		f.Crash(0, -1)
		holds(t, f, append(c.safe, "a", "one")...)
	}
}

// What was done till the room ran out is told, and done.
func TestBuildWithoutRoom(t *testing.T) {
	text := behindRule("build n: c none\nbuild o: c a\nbuild p q: c o\nbuild r: c n\ndefault n p r")
	o := entry("o", signed("cat a", "a", "one"), "one")
	p := signed("cat o", "o", "one")
	pq := entry("p", p, "one") + entry("q", p, "one")
	start := []string{"a", "one"}
	for _, c := range []struct {
		room int
		want string
		then []string
	}{
		{14, "! room", nil},
		{15, "failed n! room", []string{".log", head}},
		{17, "failed n! room", []string{".log", head}},
		{18, "failed n! room", []string{".log", head, "o", "one"}},
		{18 + 70, "failed n! room", []string{".log", head, "o", "one"}},
		{18 + 71, "ran o, failed n! room", []string{".log", head + o, "o", "one"}},
		{18 + 71 + 5, "ran o, failed n! room", []string{".log", head + o, "o", "one", "p", "one"}},
		{18 + 71 + 6, "ran o, failed n! room", []string{".log", head + o, "o", "one", "p", "one", "q", "one"}},
		{18 + 71 + 6 + 141, "ran o, failed n! room", []string{".log", head + o, "o", "one", "p", "one", "q", "one"}},
		{18 + 71 + 6 + 142, "ran o p, failed n, blocked r", []string{".log", head + o + pq, "o", "one", "p", "one", "q", "one"}},
	} {
		f := stocked(t, start...)
		f.Room(c.room)
		tells(t, f, text, "", c.want)
		holds(t, f, append(c.then, start...)...)
		// With room again it goes on, and comes to the same as if there had been enough.
		f.Room(65536)
		if _, err := builder.Build(f, text); err != nil {
			t.Fatal(err)
		}
		tells(t, f, text, "", "clean o p, failed n, blocked r")
		reads(t, f, "q", "one")
	}
}

// The report tells all edges where only the log at the end has no room, or the files go down there.
func TestErrorAtTheEnd(t *testing.T) {
	log := head + strings.Repeat(exampleRecord(), 11)
	start := []string{"a", "one", "b", "two", "o", "onetwo", ".log", log}
	f := stocked(t, start...)
	f.Room(len(log) + 12)
	tells(t, f, example, "", "clean o! room")
	holds(t, f, start...)
	f.Room(65536)
	for n := 1; n <= 4; n++ {
		f.Fuse(n)
		tells(t, f, example, "", "clean o! down")
		f.Crash(0, -1)
	}
	tells(t, f, example, "", "clean o")
	reads(t, f, ".log", head+exampleRecord())
}

// A build that has nothing to write asks nothing of files that are down, or too full.
func TestBuildWithoutOperations(t *testing.T) {
	f := stocked(t, "a", "one", "b", "two")
	tells(t, f, example, "", "ran o")
	f.Room(0)
	f.Fuse(1)
	tells(t, f, example, "", "clean o")
	answers(t, "Sync", f.Sync(), builder.ErrDown)
	tells(t, f, example, "", "clean o")
	tells(t, f, example+"\nbuild p: c none\nbuild q: c p", "", "clean o, failed p, blocked q")
	tells(t, f, example+"\nbuild p: c", "", "clean o! room")
	f.Room(65536)
	tells(t, f, example+"\nbuild p: c", "", "clean o! down")
}

// A new log that was left takes no part: it is written over.
func TestNewLogThatWasLeft(t *testing.T) {
	for _, left := range []string{"", "x", head, head + exampleRecord(), strings.Repeat("x", 5000)} {
		f := stocked(t, "a", "one", "b", "two", "o", "onetwo", ".log.new", left)
		tells(t, f, example, "", "ran o")
		holds(t, f, "a", "one", "b", "two", "o", "onetwo", ".log", head+exampleRecord())
		answers(t, "Write", f.Write(".log.new", left), nil)
		tells(t, f, example, "", "clean o")
		reads(t, f, ".log.new", left)
	}
}

func TestReportIsTheCallers(t *testing.T) {
	text := behindRule("build o p: c a\nbuild q: c none\nbuild r: c q\nbuild s: c a")
	f := stocked(t, "a", "one")
	tells(t, f, text, "o", "ran o")
	targets := []string{"s", "r", "o"}
	r, err := builder.Build(f, text, targets...)
	answers(t, "Build", err, nil)
	if got := reported(r); got != "ran s, clean o, failed q, blocked r" {
		t.Fatalf("Build: %s", got)
	}
	for _, list := range [][]string{r.Ran, r.Clean, r.Failed, r.Blocked} {
		list[0] = "changed"
		_ = append(list, "more")
	}
	if !slices.Equal(targets, []string{"s", "r", "o"}) {
		t.Errorf("the targets were changed: %q", targets)
	}
	targets[0], targets[1] = "o", "o"
	tells(t, f, text, "", "clean o s, failed q, blocked r")
}

// Files know nothing of each other: what one has built the other has not.
func TestBuildOfTwoFiles(t *testing.T) {
	f, g := stocked(t, "a", "one", "b", "two"), stocked(t, "a", "one", "b", "two")
	tells(t, f, example, "", "ran o")
	holds(t, g, "a", "one", "b", "two")
	tells(t, g, example, "", "ran o")
	answers(t, "Write", g.Write("a", "1"), nil)
	tells(t, f, example, "", "clean o")
	tells(t, g, example, "", "ran o")
}

func TestBuildOfMuch(t *testing.T) {
	text := "rule h\n command = hash $w $in\nw = x\n"
	for i := range 64 {
		text += fmt.Sprintf("build o%d: h a o%d\n", i, i+1)
	}
	f := stocked(t, "a", strings.Repeat("a", 40000), "o64", "")
	r, err := builder.Build(f, text)
	answers(t, "Build", err, nil)
	if len(r.Ran) != 64 || r.Ran[0] != "o63" || r.Ran[63] != "o0" {
		t.Fatalf("Build: %s", reported(r))
	}
	tells(t, f, text, "", "clean "+strings.Join(r.Ran, " "))
	// As many paths as there is room for, all of one great file.
	text = "rule h\n command = hash w\nbuild o: h" + strings.Repeat(" a", 1900)
	tells(t, f, text, "", "ran o")
	tells(t, f, text, "", "clean o")
}
