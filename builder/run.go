package builder

import (
	"strings"

	"builder/sums"
)

// mostMade is how many bytes a command may make.
const mostMade = 4000

// task is what a command has to do: the words behind its first, and whom it asks for files.
type task struct {
	words []string
	read  func(name string) (string, bool)
}

// Run tells what a command makes (P9).
func Run(command string, read func(name string) (string, bool)) (string, bool) {
	words := wordsOf(command)
	if len(words) == 0 {
		return "", false
	}
	do, known := doers()[words[0]]
	if !known {
		return "", false
	}
	made, ok := do(task{words[1:], read})
	if !ok || len(made) > mostMade {
		return "", false
	}
	return made, true
}

// doers tells, of each first word, what does the rest.
func doers() map[string]func(task) (string, bool) {
	return map[string]func(task) (string, bool){
		"cat":  task.cat,
		"hash": task.hash,
		"echo": task.echo,
	}
}

// wordsOf tells what stands between blanks: other white bytes are parts of words.
func wordsOf(command string) []string {
	return strings.FieldsFunc(command, func(c rune) bool { return c == ' ' })
}

func (t task) cat() (string, bool) {
	var out strings.Builder
	for _, name := range t.words {
		data, ok := t.ask(name)
		// Behind too much nothing is asked for: a long command must not heap up files.
		if !ok || out.Len()+len(data) > mostMade {
			return "", false
		}
		out.WriteString(data)
	}
	return out.String(), true
}

func (t task) hash() (string, bool) {
	if len(t.words) == 0 {
		return "", false
	}
	var text strings.Builder
	text.WriteString(t.words[0])
	text.WriteByte(0)
	for _, name := range t.words[1:] {
		data, ok := t.ask(name)
		if !ok {
			return "", false
		}
		text.WriteString(fourBytes(uint32(len(data))))
		text.WriteString(data)
	}
	return inHex(sums.Of(text.String())), true
}

func (t task) echo() (string, bool) {
	return strings.Join(t.words, " ") + "\n", true
}

// ask tells a file. Without a function to ask, none may be read.
func (t task) ask(name string) (string, bool) {
	if t.read == nil {
		return "", false
	}
	return t.read(name)
}

// fourBytes tells a number in bytes, the high byte first.
func fourBytes(n uint32) string {
	return string([]byte{byte(n >> 24), byte(n >> 16), byte(n >> 8), byte(n)})
}

// inHex tells a sum as digits to the base 16.
func inHex(sum [32]byte) string {
	const digits = "0123456789abcdef"
	var out strings.Builder
	for _, each := range sum {
		out.WriteByte(digits[each>>4])
		out.WriteByte(digits[each&15])
	}
	return out.String()
}
