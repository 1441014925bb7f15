package builder_test

import (
	"crypto/sha256"
	"encoding/binary"
	"hash/crc32"
	"strings"
	"testing"

	"builder/builder"
)

const head = "builderlog1\n"

// framed is a body with its length and its CRC, by the library's means.
func framed(body string) string {
	return string(binary.BigEndian.AppendUint32(append([]byte{byte(len(body))}, body...), crc32.ChecksumIEEE([]byte(body))))
}

func summed(text string) string {
	sum := sha256.Sum256([]byte(text))
	return string(sum[:])
}

// signed tells the signature of a command and its files: a name and its data, by turns.
func signed(command string, files ...string) string {
	text := command + "\x00"
	for i := 0; i+1 < len(files); i += 2 {
		text += files[i] + "\x00" + summed(files[i+1])
	}
	return summed(text)
}

// entry is a record: of a file, its signature, and its data.
func entry(name, signature, data string) string {
	return framed(string([]byte{byte(len(name))}) + name + signature + summed(data))
}

// stocked makes files with all the room there may be that hold these, all safe.
func stocked(t *testing.T, want ...string) *builder.Files {
	t.Helper()
	f := filled(t)
	f.Room(65536)
	for i := 0; i+1 < len(want); i += 2 {
		answers(t, "Write", f.Write(want[i], want[i+1]), nil)
	}
	answers(t, "Sync", f.Sync(), nil)
	return f
}

// operations counts the operations of a build of files that hold these.
func operations(t *testing.T, text string, want ...string) int {
	t.Helper()
	for n := 1; n < 1000; n++ {
		f := stocked(t, want...)
		f.Fuse(n)
		_, err := builder.Build(f, text)
		if err == nil {
			return n - 1
		}
		answers(t, "Build", err, builder.ErrDown)
	}
	t.Fatal("no end of operations")
	return 0
}

// example is the first one of the document.
const example = "rule c\n  command = cat $in\nbuild o: c a b"

func exampleRecord() string {
	return entry("o", signed("cat a b", "a", "one", "b", "two"), "onetwo")
}

func TestLogOfAnEdge(t *testing.T) {
	f := stocked(t, "a", "one", "b", "two")
	tells(t, f, example, "", "ran o")
	holds(t, f, "a", "one", "b", "two", "o", "onetwo", ".log", head+exampleRecord())
	if got := crc32.ChecksumIEEE([]byte(head + exampleRecord())); got != 0xbff9ef05 {
		t.Errorf("the log that is wanted has the CRC %08x itself", got)
	}
}

func TestLogOfSeveralOuts(t *testing.T) {
	long := strings.Repeat("n", 32)
	text := behindRule("build p: c o " + long + "\nbuild " + long + " o | q: c a || b\ndefault p")
	f := stocked(t, "a", "\x00\xff", "b", "")
	tells(t, f, text, "", "ran "+long+" p")
	made := signed("cat a", "a", "\x00\xff")
	log := head + entry(long, made, "\x00\xff") + entry("o", made, "\x00\xff") + entry("q", made, "\x00\xff")
	log += entry("p", signed("cat o "+long, "o", "\x00\xff", long, "\x00\xff"), "\x00\xff\x00\xff")
	holds(t, f, "a", "\x00\xff", "b", "", long, "\x00\xff", "o", "\x00\xff", "q", "\x00\xff", "p", "\x00\xff\x00\xff", ".log", log)
}

// Records stand behind each other, as they came, also those of builds ahead.
func TestLogGrows(t *testing.T) {
	f := stocked(t, "a", "one", "b", "two")
	log := head + exampleRecord()
	tells(t, f, example, "", "ran o")
	for _, data := range []string{"1", "", "one"} {
		answers(t, "Write", f.Write("a", data), nil)
		tells(t, f, example, "", "ran o")
		tells(t, f, example, "", "clean o")
		log += entry("o", signed("cat a b", "a", data, "b", "two"), data+"two")
		holds(t, f, "a", data, "b", "two", "o", data+"two", ".log", log)
	}
}

// logs is a log, what a build of the example tells, and the log then.
type logs [][3]string

func (list logs) try(t *testing.T) {
	t.Helper()
	for _, each := range list {
		f := stocked(t, "a", "one", "b", "two", "o", "onetwo", ".log", each[0])
		if got := built(t, f, example); got != each[1] {
			t.Errorf("of the log %q: %s, want %s", each[0], got, each[1])
		}
		if got, err := f.Read(".log"); got != each[2] || err != nil {
			t.Errorf("the log %q is then %q, %v, want %q", each[0], got, err, each[2])
		}
		if got := strings.Join(f.Names(), " "); got != ".log a b o" {
			t.Errorf("of the log %q: the files are then %s", each[0], got)
		}
	}
}

func TestLogIsRead(t *testing.T) {
	good, other := exampleRecord(), entry("x", summed("1"), "2")
	old, wrong := entry("o", summed("old"), "onetwo"), entry("o", signed("cat a b", "a", "one", "b", "two"), "another")
	logs{
		{head, "ran o", head + good},
		{head + good, "clean o", head + good},
		{head + other, "ran o", head + other + good},
		{head + other + good, "clean o", head + other + good},
		{head + good + other, "clean o", head + good + other},
		// The last of a file counts.
		{head + old + good, "clean o", head + old + good},
		{head + wrong + other + good + other, "clean o", head + wrong + other + good + other},
		{head + good + old, "ran o", head + good + old + good},
		{head + good + wrong, "ran o", head + good + wrong + good},
		{head + good + other + wrong, "ran o", head + good + other + wrong + good},
	}.try(t)
}

func TestLogThatIsNone(t *testing.T) {
	good := exampleRecord()
	for _, text := range []string{"", "x", "\n", good, head[:11], head[:11] + good, head[1:] + good, "\n" + head + good, " " + head + good,
		"builderlog1 \n" + good, "builderlog1\r\n" + good, "builderlog2\n" + good, "builderlog11\n" + good, "Builderlog1\n" + good, "builderlog\n" + good, "builderlog1\x00" + good} {
		logs{{text, "ran o", head + good}}.try(t)
	}
	f := stocked(t, "a", "one", "b", "two", "o", "onetwo")
	tells(t, f, example, "", "ran o")
	holds(t, f, "a", "one", "b", "two", "o", "onetwo", ".log", head+good)
}

// What is left behind the records goes, with all behind it.
func TestLogWithSomethingLeft(t *testing.T) {
	good, other := exampleRecord(), entry("x", summed("1"), "2")
	for _, left := range []string{"x", "\n", "\x00", "\x00\x00\x00\x00\x00", "\xff", head, "x" + other, head + other, good[:1], good[:len(good)-1], good[1:], strings.Repeat("z", 1000)} {
		logs{
			{head + good + left, "clean o", head + good},
			{head + other + good + left, "clean o", head + other + good},
			{head + other + left, "ran o", head + other + good},
			{head + left, "ran o", head + good},
			{head + left + good, "ran o", head + good},
			{head + other + left + good, "ran o", head + other + good},
		}.try(t)
	}
}

// A record of which one byte is another, or the end is missing, is none.
func TestRecordThatIsSpoilt(t *testing.T) {
	good, other := exampleRecord(), entry("x", summed("1"), "2")
	for i := range len(good) {
		for _, flip := range []byte{1, 0x20, 0x80, 0xff} {
			spoilt := []byte(good)
			spoilt[i] ^= flip
			logs{{head + other + string(spoilt), "ran o", head + other + good}}.try(t)
		}
		if i > 0 {
			logs{{head + other + good[:i], "ran o", head + other + good}}.try(t)
		}
	}
}

// A body that is none is no record, though its CRC is right.
func TestBodyThatIsNone(t *testing.T) {
	good := exampleRecord()
	sums := summed("1") + summed("2")
	sized := func(n int, name string) string { return string([]byte{byte(n)}) + name + sums }
	for _, body := range []string{"", "\x00", "\x01", "o", sums, "\x01o", sized(0, ""), sized(1, ""), sized(0, "o"), sized(2, "o"), sized(1, "oo"), sized(255, "o"),
		sized(1, "o")[:65], sized(1, "o") + "x", sized(33, strings.Repeat("n", 33)), sized(190, strings.Repeat("n", 190)),
		sized(1, " "), sized(1, "\x00"), sized(1, "\xff"), sized(2, "é"), sized(2, "a*"), sized(3, "a b"), sized(2, "o\n")} {
		logs{
			{head + good + framed(body), "clean o", head + good},
			{head + good + framed(body) + entry("x", summed("1"), "2"), "clean o", head + good},
			{head + framed(body) + good, "ran o", head + good},
		}.try(t)
	}
}

// Any name that a file may have is one in the log too, and the sums may be any bytes.
func TestNamesInALog(t *testing.T) {
	good := exampleRecord()
	for _, name := range []string{".log", ".log.new", ".", "/", "-", "_", "0", "Z", "none/such", strings.Repeat("n", 32)} {
		for _, sum := range []string{strings.Repeat("\x00", 32), strings.Repeat("\xff", 32), summed("")} {
			other := framed(string([]byte{byte(len(name))}) + name + sum + sum)
			logs{
				{head + other + good + "left", "clean o", head + other + good},
				{head + good + other, "clean o", head + good + other},
			}.try(t)
		}
	}
}

// The CRC's high byte is the first.
func TestNumbersInALog(t *testing.T) {
	good := exampleRecord()
	end := []byte(good[len(good)-4:])
	end[0], end[1], end[2], end[3] = end[3], end[2], end[1], end[0]
	logs{{head + good[:len(good)-4] + string(end), "ran o", head + good}}.try(t)
}

// A log that is made anew has the last record of each file, in the order in which they first came.
func TestLogMadeAnew(t *testing.T) {
	good := exampleRecord()
	name := func(name, data string) string { return entry(name, summed(name+data), data) }
	logs{
		{head + name("z", "1") + good + name("a", "1") + name("z", "2") + name("q", "1") + name("z", "3") + name("a", "2") + "left",
			"clean o", head + name("z", "3") + good + name("a", "2") + name("q", "1")},
		{head + name("o", "old") + name("z", "1") + name("o", "older") + name("z", "1") + good + "left",
			"clean o", head + good + name("z", "1")},
		{head + good + name("z", "1") + name("o", "other") + "left",
			"ran o", head + name("o", "other") + name("z", "1") + good},
	}.try(t)
}

// At the end: more records than twice the files and eight together.
func TestLongLogMadeAnew(t *testing.T) {
	good, old := exampleRecord(), entry("o", summed("old"), "old")
	x, y := entry("x", summed("1"), "1"), entry("y", summed("2"), "2")
	logs{
		{head + strings.Repeat(good, 10), "clean o", head + strings.Repeat(good, 10)},
		{head + strings.Repeat(good, 11), "clean o", head + good},
		{head + strings.Repeat(old, 9), "ran o", head + strings.Repeat(old, 9) + good},
		{head + strings.Repeat(old, 10), "ran o", head + good},
		{head + strings.Repeat(x+y+good, 4) + x + good, "clean o", head + strings.Repeat(x+y+good, 4) + x + good},
		{head + strings.Repeat(x+y+good, 4) + x + y + good, "clean o", head + x + y + good},
		{head + y + strings.Repeat(good, 12) + x, "clean o", head + y + strings.Repeat(good, 12) + x},
		{head + y + strings.Repeat(good, 13) + x, "clean o", head + y + good + x},
		// It is no longer long, once it was made anew for what was left.
		{head + strings.Repeat(old, 30) + "left", "ran o", head + old + good},
	}.try(t)
	// Also where nothing is made.
	for _, text := range []string{behindRule("build o: c none"), behindRule("build o: c a\n") + "rule f\n command = no\nbuild p: f\ndefault p", ""} {
		f := stocked(t, "a", "one", ".log", head+strings.Repeat(x, 11))
		if _, err := builder.Build(f, text); err != nil {
			t.Errorf("Build(%q): %v", text, err)
		}
		holds(t, f, "a", "one", ".log", head+x)
	}
}

// How often the log is made anew is seen in the operations: 4 each time, and 4 for an edge with one out.
func TestOperationsOfABuild(t *testing.T) {
	good, old := exampleRecord(), entry("o", summed("old"), "old")
	for _, c := range []struct {
		log  string
		want int
	}{
		{"", 8},
		{head[:5], 8},
		{head, 4},
		{head + old, 4},
		{head + old + "left", 8},
		{head + good, 0},
		{head + good + "left", 4},
		{head + strings.Repeat(good, 10), 0},
		{head + strings.Repeat(good, 11), 4},
		{head + strings.Repeat(good, 30) + "left", 4},
		{head + strings.Repeat(old, 10), 8},
		{head + strings.Repeat(old, 30) + "left", 8},
	} {
		if got := operations(t, example, "a", "one", "b", "two", "o", "onetwo", ".log", c.log); got != c.want {
			t.Errorf("of the log %q: %d operations, want %d", c.log, got, c.want)
		}
	}
	if got := operations(t, example, "a", "one", "b", "two"); got != 8 {
		t.Errorf("without a log: %d operations, want 8", got)
	}
	for text, want := range map[string]int{"": 0, behindRule("build o: c none"): 0, behindRule("build o | p q: c a"): 6, behindRule("build o: c a\nbuild p: c o"): 8} {
		if got := operations(t, text, "a", "one", ".log", head); got != want {
			t.Errorf("of %q: %d operations, want %d", text, got, want)
		}
	}
}
