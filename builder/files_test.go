package builder_test

import (
	"errors"
	"math"
	"slices"
	"strings"
	"sync"
	"testing"

	"builder/builder"
)

// is tells whether an error is the reason that is wanted (nil: none).
func is(got, want error) bool {
	return (got == nil) == (want == nil) && errors.Is(got, want)
}

func answers(t *testing.T, what string, got, want error) {
	t.Helper()
	if !is(got, want) {
		t.Fatalf("%s: %v, want %v", what, got, want)
	}
}

// holds fails if the files are not just these: a name and its data, by turns.
func holds(t *testing.T, f *builder.Files, want ...string) {
	t.Helper()
	var names []string
	for i := 0; i+1 < len(want); i += 2 {
		names = append(names, want[i])
		got, err := f.Read(want[i])
		if err != nil || got != want[i+1] {
			t.Fatalf("Read(%q): %q, %v, want %q", want[i], got, err, want[i+1])
		}
	}
	slices.Sort(names)
	if got := f.Names(); !slices.Equal(got, names) {
		t.Fatalf("Names: %q, want %q", got, names)
	}
}

// filled makes files with room enough that hold these, all safe.
func filled(t *testing.T, want ...string) *builder.Files {
	t.Helper()
	f := builder.NewFiles(1000)
	for i := 0; i+1 < len(want); i += 2 {
		answers(t, "Write", f.Write(want[i], want[i+1]), nil)
	}
	answers(t, "Sync", f.Sync(), nil)
	return f
}

func TestReadAndNames(t *testing.T) {
	f := filled(t, "b", "2", "a/b", "3", "B", "1", "a.b", "", "a-b", "4", "_", "5", "0", "\xff\x00é")
	holds(t, f, "b", "2", "a/b", "3", "B", "1", "a.b", "", "a-b", "4", "_", "5", "0", "\xff\x00é")
	if got, want := strings.Join(f.Names(), " "), "0 B _ a-b a.b a/b b"; got != want {
		t.Errorf("Names: %s, want %s", got, want)
	}
	for _, name := range []string{"c", "", "é", "a b", strings.Repeat("n", 33)} {
		got, err := f.Read(name)
		answers(t, "Read of no file", err, builder.ErrNone)
		if got != "" {
			t.Errorf("Read(%q): %q beside an error", name, got)
		}
	}
	if got := builder.NewFiles(5).Names(); len(got) != 0 {
		t.Errorf("new files: %q", got)
	}
}

// Each byte but those that a name may have, and each length about the edges, in each call that asks for a name.
func TestNameOfEachByte(t *testing.T) {
	const may = "abcdefghijklmnopqrstuvwxyzABCDEFGHIJKLMNOPQRSTUVWXYZ0123456789._/-"
	f := filled(t, "x", "1")
	for c := range 256 {
		name := "n" + string([]byte{byte(c)})
		if strings.IndexByte(may, byte(c)) >= 0 {
			answers(t, "Write of "+name, f.Write(name, ""), nil)
			answers(t, "Remove of "+name, f.Remove(name), nil)
			continue
		}
		refusesName(t, f, name)
	}
	refusesName(t, f, "")
	refusesName(t, f, strings.Repeat("n", 33))
	refusesName(t, f, strings.Repeat("n", 100000))
	holds(t, f, "x", "1")
	answers(t, "a name of 32 bytes", f.Append(strings.Repeat("/", 32), ""), nil)
	answers(t, "a name of 1 byte", f.Write(".", ""), nil)
}

func refusesName(t *testing.T, f *builder.Files, name string) {
	t.Helper()
	answers(t, "Write", f.Write(name, "d"), builder.ErrName)
	answers(t, "Append", f.Append(name, "d"), builder.ErrName)
	answers(t, "Rename from", f.Rename(name, "y"), builder.ErrName)
	answers(t, "Rename to", f.Rename("x", name), builder.ErrName)
	answers(t, "Remove", f.Remove(name), builder.ErrName)
}

func TestWriteAndAppend(t *testing.T) {
	f := builder.NewFiles(100)
	answers(t, "Write", f.Write("a", "one"), nil)
	answers(t, "Write over it", f.Write("a", "two"), nil)
	answers(t, "Append", f.Append("a", "three"), nil)
	answers(t, "Append to none", f.Append("b", "four"), nil)
	answers(t, "Append of nothing to none", f.Append("c", ""), nil)
	answers(t, "Write of nothing", f.Write("d", ""), nil)
	holds(t, f, "a", "twothree", "b", "four", "c", "", "d", "")
}

func TestRename(t *testing.T) {
	f := filled(t, "a", "1", "b", "2")
	answers(t, "Rename to a new name", f.Rename("a", "c"), nil)
	holds(t, f, "b", "2", "c", "1")
	answers(t, "Rename of none", f.Rename("a", "c"), builder.ErrNone)
	answers(t, "Rename over a file", f.Rename("c", "b"), nil)
	holds(t, f, "b", "1")
	answers(t, "Rename to itself", f.Rename("b", "b"), nil)
	holds(t, f, "b", "1")
	answers(t, "Rename of none to itself", f.Rename("a", "a"), builder.ErrNone)
	holds(t, f, "b", "1")
}

func TestRemove(t *testing.T) {
	f := filled(t, "a", "1", "b", "")
	answers(t, "Remove", f.Remove("b"), nil)
	answers(t, "Remove once more", f.Remove("b"), builder.ErrNone)
	holds(t, f, "a", "1")
}

func TestRoomOfAllFiles(t *testing.T) {
	f := builder.NewFiles(10)
	answers(t, "all the room", f.Write("a", "0123456789"), nil)
	answers(t, "a byte more", f.Append("a", "x"), builder.ErrRoom)
	answers(t, "a byte in another file", f.Write("b", "x"), builder.ErrRoom)
	answers(t, "a byte behind no file", f.Append("b", "x"), builder.ErrRoom)
	answers(t, "nothing in another file", f.Write("b", ""), nil)
	answers(t, "the same room anew", f.Write("a", "9876543210"), nil)
	answers(t, "a byte more anew", f.Write("a", "01234567890"), builder.ErrRoom)
	holds(t, f, "a", "9876543210", "b", "")
	answers(t, "Rename when full", f.Rename("a", "c"), nil)
	answers(t, "Remove", f.Remove("c"), nil)
	answers(t, "the room that came free", f.Append("b", "0123456789"), nil)
	holds(t, f, "b", "0123456789")
}

func TestRoomWithinItsEdges(t *testing.T) {
	for _, c := range []struct{ room, want int }{
		{math.MinInt, 0}, {-1, 0}, {0, 0}, {1, 1}, {65535, 65535}, {65536, 65536}, {65537, 65536}, {math.MaxInt, 65536},
	} {
		made, changed := builder.NewFiles(c.room), builder.NewFiles(7)
		changed.Room(c.room)
		for _, f := range []*builder.Files{made, changed} {
			answers(t, "a byte too many", f.Write("a", strings.Repeat("x", c.want+1)), builder.ErrRoom)
			answers(t, "as many as there is room for", f.Write("a", strings.Repeat("x", c.want)), nil)
			answers(t, "a byte behind them", f.Append("a", "x"), builder.ErrRoom)
		}
	}
}

func TestRoomMadeSmaller(t *testing.T) {
	f := filled(t, "a", "12345", "b", "67890")
	f.Room(6)
	holds(t, f, "a", "12345", "b", "67890")
	answers(t, "less, but still too much", f.Write("a", "12"), builder.ErrRoom)
	answers(t, "nothing behind too much", f.Append("a", ""), builder.ErrRoom)
	answers(t, "just as much as there is room for", f.Write("a", "1"), nil)
	holds(t, f, "a", "1", "b", "67890")
	f.Crash(0, -1)
	holds(t, f, "a", "12345", "b", "67890")
	answers(t, "the room is the same behind a crash", f.Write("a", "12"), builder.ErrRoom)
}

// What was done is done again by a crash, even if there would be no room for it any more.
func TestRoomMadeSmallerAheadOfCrash(t *testing.T) {
	f := filled(t)
	answers(t, "Write", f.Write("a", "12345"), nil)
	answers(t, "Write", f.Write("b", "67890"), nil)
	f.Room(0)
	f.Crash(1, 3)
	holds(t, f, "a", "12345", "b", "678")
}

func TestErrorsInTheirOrder(t *testing.T) {
	f := filled(t, "a", "1")
	f.Room(1)
	f.Fuse(1)
	answers(t, "Sync", f.Sync(), builder.ErrDown)
	for _, c := range []struct {
		what      string
		got, want error
	}{
		{"Write: name, room, down", f.Write("é", "22"), builder.ErrName},
		{"Write: room, down", f.Write("b", "22"), builder.ErrRoom},
		{"Write: down", f.Write("a", "2"), builder.ErrDown},
		{"Append: name, room, down", f.Append("é", "22"), builder.ErrName},
		{"Append: room, down", f.Append("a", "2"), builder.ErrRoom},
		{"Append: down", f.Append("a", ""), builder.ErrDown},
		{"Rename: name of the second, none, down", f.Rename("b", "é"), builder.ErrName},
		{"Rename: name of the first, down", f.Rename("é", "a"), builder.ErrName},
		{"Rename: none, down", f.Rename("b", "a"), builder.ErrNone},
		{"Rename: down", f.Rename("a", "b"), builder.ErrDown},
		{"Remove: name, down", f.Remove("é"), builder.ErrName},
		{"Remove: none, down", f.Remove("b"), builder.ErrNone},
		{"Remove: down", f.Remove("a"), builder.ErrDown},
		{"Sync: down", f.Sync(), builder.ErrDown},
	} {
		answers(t, c.what, c.got, c.want)
	}
	holds(t, f, "a", "1")
}

// Each of the five burns the fuse by one, and a refused call by none.
func TestFuseCountsOperations(t *testing.T) {
	calls := []func(f *builder.Files) error{
		func(f *builder.Files) error { return f.Write("b", "2") },
		func(f *builder.Files) error { return f.Append("b", "3") },
		func(f *builder.Files) error { return f.Rename("b", "c") },
		func(f *builder.Files) error { return f.Sync() },
		func(f *builder.Files) error { return f.Remove("c") },
	}
	for n := 1; n <= len(calls)+1; n++ {
		f := filled(t, "a", "1")
		f.Fuse(n)
		for i, call := range calls {
			answers(t, "a name that may not be", f.Write("é", ""), builder.ErrName)
			answers(t, "no such file", f.Remove("q"), builder.ErrNone)
			answers(t, "no such file", f.Rename("q", "a"), builder.ErrNone)
			answers(t, "no room", f.Append("a", strings.Repeat("x", 1000)), builder.ErrRoom)
			f.Names()
			f.Room(1000)
			if i+1 == n {
				answers(t, "the operation that the fuse was lit for", call(f), builder.ErrDown)
				answers(t, "one behind it", f.Remove("a"), builder.ErrDown)
				break
			}
			answers(t, "an operation ahead of it", call(f), nil)
		}
	}
}

func TestFuseLitAnew(t *testing.T) {
	f := filled(t)
	f.Fuse(1)
	f.Fuse(2)
	answers(t, "the first", f.Sync(), nil)
	f.Fuse(0)
	answers(t, "the second, without a fuse", f.Sync(), nil)
	for _, none := range []int{0, -1, math.MinInt} {
		f.Fuse(1)
		f.Fuse(none)
		answers(t, "without a fuse", f.Write("a", "1"), nil)
	}
	f.Fuse(math.MaxInt)
	answers(t, "with a long one", f.Sync(), nil)
}

func TestDownStaysDown(t *testing.T) {
	f := filled(t, "a", "1")
	answers(t, "Write", f.Write("b", "2"), nil)
	f.Fuse(1)
	answers(t, "Remove", f.Remove("a"), builder.ErrDown)
	for _, n := range []int{0, 5, -1} {
		f.Fuse(n)
		f.Room(500)
		answers(t, "Sync", f.Sync(), builder.ErrDown)
		answers(t, "Write", f.Write("c", "3"), builder.ErrDown)
	}
	holds(t, f, "a", "1", "b", "2")
	f.Fuse(1)
	f.Crash(9, 9)
	holds(t, f, "a", "1", "b", "2")
	answers(t, "up, without a fuse", f.Write("c", "3"), nil)
	answers(t, "up, without a fuse", f.Sync(), nil)
}

// What was refused is nothing that a crash could do again.
func TestCrashAfterRefusals(t *testing.T) {
	f := filled(t, "a", "1")
	answers(t, "Write", f.Write("é", "2"), builder.ErrName)
	answers(t, "Append", f.Append("a", strings.Repeat("x", 1000)), builder.ErrRoom)
	f.Fuse(2)
	answers(t, "Append", f.Append("a", "23"), nil)
	answers(t, "Append", f.Append("a", "45"), builder.ErrDown)
	f.Crash(1, 2)
	holds(t, f, "a", "123")
	answers(t, "Append", f.Append("a", "45"), nil)
	f.Crash(0, 1)
	holds(t, f, "a", "1234")
}

func TestCrashKeepsAndCuts(t *testing.T) {
	for _, c := range []struct {
		keep, cut int
		want      []string
	}{
		{math.MinInt, -1, []string{"a", "one"}},
		{-1, -1, []string{"a", "one"}},
		{-1, 1, []string{"a", "onet"}},
		{0, -1, []string{"a", "one"}},
		{0, math.MinInt, []string{"a", "one"}},
		{0, 0, []string{"a", "one"}},
		{0, 2, []string{"a", "onetw"}},
		{0, 3, []string{"a", "onetwo"}},
		{0, math.MaxInt, []string{"a", "onetwo"}},
		{1, -1, []string{"a", "onetwo"}},
		{1, 0, []string{"a", "onetwo", "b", ""}},
		{1, 4, []string{"a", "onetwo", "b", "thre"}},
		{1, 6, []string{"a", "onetwo", "b", "three"}},
		{2, 0, []string{"a", "onetwo", "b", "three"}},
		{2, 9, []string{"a", "onetwo", "b", "three"}},
		{3, 9, []string{"a", "onetwo", "c", "three"}},
		{4, -1, []string{"c", "three"}},
		{4, 0, []string{"c", "three", "d", ""}},
		{4, 3, []string{"c", "three", "d", "fou"}},
		{5, -1, []string{"c", "three", "d", "four"}},
		{5, 3, []string{"c", "three", "d", "four"}},
		{6, -1, []string{"d", "four"}},
		{6, 0, []string{"c", "", "d", "four"}},
		{6, 2, []string{"c", "fi", "d", "four"}},
		{7, 2, []string{"c", "five", "d", "four"}},
		{math.MaxInt, math.MaxInt, []string{"c", "five", "d", "four"}},
	} {
		f := filled(t, "a", "one")
		answers(t, "Append", f.Append("a", "two"), nil)
		answers(t, "Write", f.Write("b", "three"), nil)
		answers(t, "Rename", f.Rename("b", "c"), nil)
		answers(t, "Remove", f.Remove("a"), nil)
		answers(t, "Append", f.Append("d", "four"), nil)
		answers(t, "Remove", f.Remove("c"), nil)
		answers(t, "Write", f.Write("c", "five"), nil)
		f.Crash(c.keep, c.cut)
		holds(t, f, c.want...)
		f.Crash(0, -1)
		holds(t, f, c.want...)
	}
}

func TestSyncMakesSafe(t *testing.T) {
	f := builder.NewFiles(100)
	answers(t, "Write", f.Write("a", "1"), nil)
	f.Crash(0, -1)
	holds(t, f)
	answers(t, "Write", f.Write("a", "1"), nil)
	answers(t, "Write", f.Write("b", "2"), nil)
	answers(t, "Sync", f.Sync(), nil)
	answers(t, "Remove", f.Remove("a"), nil)
	f.Crash(0, 5)
	holds(t, f, "a", "1", "b", "2")
	f.Crash(5, 5)
	holds(t, f, "a", "1", "b", "2")
}

func TestSyncThatGoesDownMakesNothingSafe(t *testing.T) {
	f := filled(t, "a", "1")
	answers(t, "Write", f.Write("b", "2"), nil)
	f.Fuse(1)
	answers(t, "Sync", f.Sync(), builder.ErrDown)
	f.Crash(0, -1)
	holds(t, f, "a", "1")
}

func TestNamesAreTheCallers(t *testing.T) {
	f := filled(t, "a", "1", "b", "2")
	names := f.Names()
	names[0], names[1] = "z", "y"
	holds(t, f, "a", "1", "b", "2")
	before := f.Names()
	_ = append(before[:1], "q")
	answers(t, "Remove", f.Remove("a"), nil)
	if before[0] != "a" || before[1] != "q" {
		t.Errorf("a list that was handed out changed: %q", before)
	}
	holds(t, f, "b", "2")
}

func TestFilesKnowNothingOfEachOther(t *testing.T) {
	f, g := builder.NewFiles(10), builder.NewFiles(10)
	answers(t, "Write", f.Write("a", "0123456789"), nil)
	answers(t, "Write", g.Write("b", "0123456789"), nil)
	f.Fuse(1)
	answers(t, "Sync", g.Sync(), nil)
	answers(t, "Sync", f.Sync(), builder.ErrDown)
	g.Room(12)
	answers(t, "Append", g.Append("b", "xy"), nil)
	f.Crash(0, -1)
	holds(t, f)
	holds(t, g, "b", "0123456789xy")
	answers(t, "Write", f.Write("a", "0123456789x"), builder.ErrRoom)
}

// Many at once: none of what they do is lost.
func TestManyAtOnce(t *testing.T) {
	f := builder.NewFiles(65536)
	var all sync.WaitGroup
	for i := range 8 {
		all.Go(func() {
			name := string(rune('a' + i))
			for range 100 {
				if f.Append(name, "x") != nil || f.Append("all", "y") != nil || len(f.Names()) == 0 {
					t.Error("an operation was refused")
				}
				f.Read("all")
			}
		})
	}
	all.Wait()
	f.Crash(math.MaxInt, 0)
	want := []string{"all", strings.Repeat("y", 800)}
	for i := range 8 {
		want = append(want, string(rune('a'+i)), strings.Repeat("x", 100))
	}
	holds(t, f, want...)
}
