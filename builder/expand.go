package builder

import "strings"

// form is what a `$` begins: a byte that stands for itself, or a variable's name (the other is "").
type form struct {
	literal, variable string
	size              int // how many bytes it has behind the `$`
}

// expand tells what comes of a value or path, with these variables.
func (r *reader) expand(text string, vars *scope) string {
	var out strings.Builder
	for {
		ahead, behind, found := strings.Cut(text, "$")
		out.WriteString(ahead)
		if !found {
			return out.String()
		}
		next, ok := formOf(behind)
		r.need(ok, ErrSyntax)
		out.WriteString(next.literal)
		out.WriteString(vars.value(next.variable))
		r.need(out.Len() <= mostBytes, ErrSyntax)
		text = behind[next.size:]
	}
}

// formOf reads what stands behind a `$`.
func formOf(behind string) (form, bool) {
	if behind == "" {
		return form{}, false
	}
	switch behind[0] {
	case '$', ' ', ':', '|':
		return form{literal: behind[:1], size: 1}, true
	case '{':
		name, rest := cutWord(behind[1:])
		return form{variable: name, size: len(name) + 2}, name != "" && strings.HasPrefix(rest, "}")
	}
	name, _ := cutWord(behind)
	return form{variable: name, size: len(name)}, name != ""
}

// cutWord cuts a text behind the longest word that it begins with ("", if there is none).
func cutWord(text string) (word, rest string) {
	size := 0
	for size < len(text) && isWordByte(text[size]) {
		size++
	}
	return text[:size], text[size:]
}

// freeIndex tells where one of these bytes stands first, but behind a `$`; where the text ends, if there is none.
func freeIndex(text, bytes string) int {
	for i := 0; i < len(text); i++ {
		switch {
		case text[i] == '$':
			// A byte of a longer form is none that is looked for: passing over one is enough.
			i++
		case strings.IndexByte(bytes, text[i]) >= 0:
			return i
		}
	}
	return len(text)
}
