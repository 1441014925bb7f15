package builder_test

import (
	"crypto/sha256"
	"encoding/binary"
	"encoding/hex"
	"math/rand"
	"slices"
	"strings"
	"testing"

	"builder/builder"
)

// shelf is files that a command may read, and the names that it asked for.
type shelf struct {
	files map[string]string
	asked []string
}

func (s *shelf) read(name string) (string, bool) {
	s.asked = append(s.asked, name)
	data, ok := s.files[name]
	return data, ok
}

// newShelf: some files, one of them empty, and names that P4 knows none of.
func newShelf() *shelf {
	return &shelf{files: map[string]string{
		"a": "one", "b": "two", "e": "", "n": "x\n\n", "wild": "\x00\xff\xfe é ",
		"src/a.b-c_D9": "long name", "cat": "a cat", "hash": "a hash",
		"a\tb": "tab", "\u00a0": "wide blank", "\xff": "no rune", strings.Repeat("n", 33): "too long for a name",
		"half": strings.Repeat("h", 2000), "most": strings.Repeat("m", 4000), "more": strings.Repeat("o", 4001), "much": strings.Repeat("u", 65536),
	}}
}

// runs is commands and what they make, by turns.
type runs [][2]string

func (list runs) make(t *testing.T) {
	t.Helper()
	for _, each := range list {
		if got, ok := builder.Run(each[0], newShelf().read); !ok || got != each[1] {
			t.Errorf("Run(%q): %q, %v, want %q", each[0], got, ok, each[1])
		}
	}
}

func fails(t *testing.T, commands ...string) {
	t.Helper()
	for _, command := range commands {
		if got, ok := builder.Run(command, newShelf().read); ok || got != "" {
			t.Errorf("Run(%.40q) of %d bytes: %.40q, %v: it should fail", command, len(command), got, ok)
		}
	}
}

// hashed tells the digits of a word and files by the library's means.
func hashed(word string, files ...string) string {
	text := append([]byte(word), 0)
	for _, data := range files {
		text = binary.BigEndian.AppendUint32(text, uint32(len(data)))
		text = append(text, data...)
	}
	sum := sha256.Sum256(text)
	return hex.EncodeToString(sum[:])
}

func TestRunExamples(t *testing.T) {
	runs{{"hash t", hex.EncodeToString([]byte(builder.Sum("t\x00")))}}.make(t)
	fails(t, "cat x")
}

func TestCat(t *testing.T) {
	runs{
		{"cat a", "one"},
		{"cat a b a", "onetwoone"},
		{"cat b a", "twoone"},
		{"cat", ""},
		{"cat e", ""},
		{"cat e a e", "one"},
		{"cat n n", "x\n\nx\n\n"},
		{"cat wild", "\x00\xff\xfe é "},
		{"cat src/a.b-c_D9", "long name"},
		{"cat cat hash", "a cata hash"},
	}.make(t)
	fails(t, "cat c", "cat a c", "cat c a", "cat a c b", "cat A", "cat aa", "cat .log", "cat ab")
}

func TestHash(t *testing.T) {
	much := newShelf().files["much"]
	runs{
		{"hash t", "3776096e9733584bd622e7e6417b65ba6640f8a8b809f475cd15ed5923cce3f6"},
		{"hash t a b", "389311216f2616401f2f987ca1212938ca8227fb4d7e1f8339d90f1707c7f102"},
		{"hash t a", hashed("t", "one")},
		{"hash t b a", hashed("t", "two", "one")},
		{"hash t a a", hashed("t", "one", "one")},
		{"hash t e", hashed("t", "")},
		{"hash t e e", hashed("t", "", "")},
		{"hash a", hashed("a")},
		{"hash hash hash", hashed("hash", "a hash")},
		{"hash é/.\x00:", hashed("é/.\x00:")},
		{"hash t wild n", hashed("t", "\x00\xff\xfe é ", "x\n\n")},
		{"hash t half half a", hashed("t", strings.Repeat("h", 2000), strings.Repeat("h", 2000), "one")},
		{"hash t more", hashed("t", strings.Repeat("o", 4001))},
		{"hash t much much", hashed("t", much, much)},
		{"hash " + strings.Repeat("t", 5000), hashed(strings.Repeat("t", 5000))},
	}.make(t)
	fails(t, "hash", "hash ", " hash  ", "hash t c", "hash t a c", "hash t c a", "hash t t")
}

func TestEcho(t *testing.T) {
	runs{
		{"echo", "\n"},
		{"echo   ", "\n"},
		{"echo x", "x\n"},
		{"echo x y", "x y\n"},
		{"echo  x   y  ", "x y\n"},
		{"echo a c", "a c\n"},
		{"echo echo", "echo\n"},
		{"echo $a \\n 'x' \"", "$a \\n 'x' \"\n"},
	}.make(t)
}

// Blanks alone part words: other bytes, white ones too, are parts of them.
func TestWordsOfACommand(t *testing.T) {
	runs{
		{"  cat  a   b ", "onetwo"},
		{"cat" + strings.Repeat(" ", 5000) + "a", "one"},
		{"cat a\tb", "tab"},
		{"cat \u00a0", "wide blank"},
		{"cat \xff", "no rune"},
		{"cat " + strings.Repeat("n", 33), "too long for a name"},
		{"echo a\tb\nc\rd\x00e\vf\fg\u0085h\u2003i", "a\tb\nc\rd\x00e\vf\fg\u0085h\u2003i\n"},
		{"echo \xc3 \xa9 \xff\x20\xfe \xc0\xa0", "\xc3 \xa9 \xff \xfe \xc0\xa0\n"},
		{"hash \t a", hashed("\t", "one")},
	}.make(t)
	fails(t, "cat\ta", "cat\na", "\tcat a", "\ncat a", "cat\n", "cat a\n", "cat\x00 a", "\u00a0cat a", "cat\u00a0a")
}

func TestRunOfAnotherFirstWord(t *testing.T) {
	fails(t, "", " ", strings.Repeat(" ", 5000), "fail", "Cat a", "CAT a", "cats a", "ca a", "a", "a cat", "ECHO x", "echos x", "ech x", "Hash t", "hashh t", "rm a", "true", ":", "\x00", "\xff", "-", "cat;echo", "\"cat\" a")
}

func TestRunThatMakesTooMuch(t *testing.T) {
	runs{
		{"cat most", strings.Repeat("m", 4000)},
		{"cat half half", strings.Repeat("h", 4000)},
		{"cat e most e", strings.Repeat("m", 4000)},
		{"echo " + strings.Repeat("w", 3999), strings.Repeat("w", 3999) + "\n"},
		{"echo " + strings.Repeat("w ", 2000), strings.Repeat("w ", 1999) + "w\n"},
		{"echo " + strings.Repeat("w    ", 2000), strings.Repeat("w ", 1999) + "w\n"},
	}.make(t)
	fails(t, "cat more", "cat much", "cat most a", "cat a most", "cat half half a", "cat half half half", "cat more c",
		"echo "+strings.Repeat("w", 4000), "echo "+strings.Repeat("w ", 1999)+"ww", "echo "+strings.Repeat("w ", 2001),
		"cat "+strings.Repeat("much ", 100000))
}

// Files alone are asked for, each word as it stands.
func TestRunAsksForFilesAlone(t *testing.T) {
	for command, want := range map[string]string{
		"cat":         "",
		"cat b  a b ": "b a b",
		"hash a":      "",
		"hash a b a":  "b a",
		"echo a b":    "",
		"echo":        "",
		"fail a b":    "",
		"hash":        "",
		"":            "",
		"cat cat e":   "cat e",
	} {
		s := newShelf()
		builder.Run(command, s.read)
		if !slices.Equal(s.asked, strings.Fields(want)) {
			t.Errorf("Run(%q) asks for %q, want %q", command, s.asked, want)
		}
	}
}

// What read tells beside a false counts for nothing.
func TestRunWhereReadIsFalse(t *testing.T) {
	no := func(string) (string, bool) { return "data", false }
	for _, command := range []string{"cat a", "hash t a", "cat a a", "hash a a"} {
		if got, ok := builder.Run(command, no); ok || got != "" {
			t.Errorf("Run(%q), where read is false: %q, %v", command, got, ok)
		}
		if got, ok := builder.Run(command, nil); ok || got != "" {
			t.Errorf("Run(%q) without a function: %q, %v", command, got, ok)
		}
	}
	for command, want := range map[string]string{"cat": "", "hash t": hashed("t"), "echo a": "a\n"} {
		if got, ok := builder.Run(command, no); !ok || got != want {
			t.Errorf("Run(%q), where read is false: %q, %v", command, got, ok)
		}
		if got, ok := builder.Run(command, nil); !ok || got != want {
			t.Errorf("Run(%q) without a function: %q, %v", command, got, ok)
		}
	}
}

// Read is asked anew for each name: it may tell another file each time.
func TestRunAsksAnew(t *testing.T) {
	times := 0
	read := func(name string) (string, bool) {
		times++
		return name + strings.Repeat("!", times), times < 4
	}
	for _, want := range []string{"a!a!!a!!!", ""} {
		if got, ok := builder.Run("cat a a a", read); got != want || ok != (want != "") {
			t.Errorf("Run(cat a a a): %q, %v, want %q", got, ok, want)
		}
	}
}

// modelRun tells what a command makes, a second time.
func modelRun(command string, files map[string]string) (string, bool) {
	var words, data []string
	for _, word := range strings.Split(command, " ") {
		if word != "" {
			words = append(words, word)
		}
	}
	if len(words) == 0 {
		return "", false
	}
	names := words[1:]
	switch words[0] {
	case "echo":
		made := strings.Join(names, " ") + "\n"
		if len(made) > 4000 {
			return "", false
		}
		return made, true
	case "hash":
		if len(names) == 0 {
			return "", false
		}
		names = names[1:]
	case "cat":
	default:
		return "", false
	}
	for _, name := range names {
		file, ok := files[name]
		if !ok {
			return "", false
		}
		data = append(data, file)
	}
	if words[0] == "hash" {
		return hashed(words[1], data...), true
	}
	made := strings.Join(data, "")
	if len(made) > 4000 {
		return "", false
	}
	return made, true
}

func TestRunAgainstAModel(t *testing.T) {
	pieces := []string{"a", "a", "b", "b", "e", "n", "half", "half", "most", "more", "wild", "\xff", "c", "cat", "echo", "hash", "\t", "x"}
	blanks := []string{" ", " ", " ", "  ", "   ", ""}
	s := newShelf()
	fine := 0
	for i := range 20000 {
		r := rand.New(rand.NewSource(int64(i)))
		of := func(list []string) string { return list[r.Intn(len(list))] }
		command := of(blanks[3:]) + of([]string{"cat", "cat", "hash", "hash", "echo", of(pieces)})
		for range r.Intn(6) {
			command += of(blanks) + of(pieces)
		}
		command += of(blanks[3:])
		got, ok := builder.Run(command, s.read)
		want, wantOK := modelRun(command, s.files)
		if got != want || ok != wantOK {
			t.Fatalf("Run(%q): %.80q, %v, want %.80q, %v", command, got, ok, want, wantOK)
		}
		if ok {
			fine++
		}
	}
	if fine < 5000 || fine > 15000 {
		t.Errorf("%d of the commands make something: they should be mixed", fine)
	}
}
