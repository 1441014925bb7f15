package builder

import "strings"

// line is a line of a manifest, or several that are one: at is the first's number.
type line struct {
	at   int
	text string
}

// linesOf tells those lines of a text that are something.
func linesOf(text string) []line {
	var lines []line
	for _, each := range joinedLines(text) {
		if said := withoutBlanks(each.text); said != "" && said[0] != '#' {
			lines = append(lines, each)
		}
	}
	return lines
}

func joinedLines(text string) []line {
	var lines []line
	goesOn := false
	for i, raw := range strings.Split(text, "\n") {
		part, more := cutJoint(raw)
		if goesOn {
			lines[len(lines)-1].text += withoutBlanks(part)
		} else {
			lines = append(lines, line{i + 1, part})
		}
		goesOn = more
	}
	return lines
}

// cutJoint takes the last `$` of an odd number away, and tells whether there was one.
func cutJoint(raw string) (string, bool) {
	dollars := len(raw) - len(strings.TrimRight(raw, "$"))
	if dollars%2 == 0 {
		return raw, false
	}
	return raw[:len(raw)-1], true
}

// withoutBlanks tells a text without the blanks that it begins with.
func withoutBlanks(text string) string {
	return strings.TrimLeft(text, " ")
}
