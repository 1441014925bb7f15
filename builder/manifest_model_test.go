package builder_test

import (
	"fmt"
	"math/rand"
	"regexp"
	"strings"
	"testing"

	"builder/builder"
)

// A second reader of manifests, by regular expressions and answers that are handed up, to hold Parse against.

var (
	bindingLine = regexp.MustCompile(`(?s)^ *([a-zA-Z0-9_-]+) *= *(.*)$`)
	ruleLine    = regexp.MustCompile(`(?s)^rule +([a-zA-Z0-9_-]+) *$`)
	ruleAhead   = regexp.MustCompile(`(?s)^ *([a-zA-Z0-9_-]*)(.*)$`)
	dollarForm  = regexp.MustCompile(`(?s)\$(?:([$ :|])|([a-zA-Z0-9_-]+)|\{([a-zA-Z0-9_-]+)\}|)`)
	outsAhead   = regexp.MustCompile(`(?s)^((?:\$.|[^:$])*?):(.*)$`)
	pathToken   = regexp.MustCompile(`(?s)^(?:\$[$ :|]|[^ :|])+`)
)

type modelEdge struct {
	edge builder.Edge
	own  map[string]string
}

type modelManifest struct {
	vars     map[string]string
	rules    map[string]string
	edges    []modelEdge
	defaults []string
	failed   string // a reason and a line
	at       int
}

func (m *modelManifest) fail(reason string) bool {
	m.failed = fmt.Sprint(reason, " at ", m.at)
	return false
}

// expand tells what comes of a text, or that nothing may.
func (m *modelManifest) expand(text string, scopes ...map[string]string) (string, bool) {
	out := ""
	for {
		at := dollarForm.FindStringSubmatchIndex(text)
		if at == nil {
			return out + text, true
		}
		out += text[:at[0]]
		switch {
		case at[2] >= 0:
			out += text[at[2]:at[3]]
		case at[4] >= 0, at[6] >= 0:
			name := strings.Trim(text[at[0]:at[1]], "${}")
			for _, scope := range scopes {
				if value, ok := scope[name]; ok {
					out += value
					break
				}
			}
		default:
			return "", m.fail("syntax")
		}
		if len(out) > 4000 {
			return "", m.fail("syntax")
		}
		text = text[at[1]:]
	}
}

// tokens tells paths and the marks between them.
func (m *modelManifest) tokens(text, marks string) ([]string, bool) {
	var list []string
	for text = strings.TrimLeft(text, " "); text != ""; text = strings.TrimLeft(text, " ") {
		if token := pathToken.FindString(text); token != "" {
			path, ok := m.expand(token, m.vars)
			if !ok {
				return nil, false
			}
			if !nameIsFine(path) || path == ".log" || path == ".log.new" {
				return nil, m.fail("name")
			}
			list, text = append(list, path), text[len(token):]
			continue
		}
		mark := text[:1]
		if strings.HasPrefix(text, "||") {
			mark = "||"
		}
		if !strings.Contains(marks, "<"+mark+">") {
			return nil, m.fail("syntax")
		}
		list, text = append(list, mark), text[len(mark):]
	}
	return list, true
}

// parts tells the paths behind no mark, behind `|` and behind `||`; how often these stand there; and whether `||` stands ahead of a `|`.
func parts(tokens []string) (paths [3][]string, marks [3]int, turned bool) {
	at := 0
	for _, token := range tokens {
		switch token {
		case "|", "||":
			turned = turned || at > len(token)
			at = len(token)
			marks[at]++
		default:
			paths[at] = append(paths[at], token)
		}
	}
	return paths, marks, turned
}

func (m *modelManifest) build(text string) bool {
	cut := outsAhead.FindStringSubmatch(text)
	if cut == nil {
		return m.fail("syntax")
	}
	left, ok := m.tokens(cut[1], "<|>")
	if !ok {
		return false
	}
	rule := ruleAhead.FindStringSubmatch(cut[2])
	right, ok := m.tokens(rule[2], "<|><||>")
	if !ok {
		return false
	}
	outs, outMarks, _ := parts(left)
	ins, inMarks, turned := parts(right)
	if len(outs[0]) == 0 || outMarks[1] > 1 || rule[1] == "" || inMarks[1] > 1 || inMarks[2] > 1 || turned || len(m.edges) == 64 {
		return m.fail("syntax")
	}
	if _, ok := m.rules[rule[1]]; !ok {
		return m.fail("rule")
	}
	seen := map[string]bool{}
	for _, e := range m.edges {
		for _, out := range e.edge.Outs {
			seen[out] = true
		}
	}
	all := append(outs[0], outs[1]...)
	for _, out := range all {
		if seen[out] {
			return m.fail("twice")
		}
		seen[out] = true
	}
	m.edges = append(m.edges, modelEdge{builder.Edge{Outs: all, Ins: ins[0], Implicit: ins[1], Order: ins[2], Rule: rule[1]}, map[string]string{}})
	return true
}

func (m *modelManifest) bind(text string, scope map[string]string, scopes ...map[string]string) bool {
	cut := bindingLine.FindStringSubmatch(text)
	if cut == nil {
		return m.fail("syntax")
	}
	value, ok := m.expand(cut[2], scopes...)
	if ok {
		scope[cut[1]] = value
	}
	return ok
}

func (m *modelManifest) rule(text string, bound []modelLine) bool {
	cut := ruleLine.FindStringSubmatch(text)
	if cut == nil {
		return m.fail("syntax")
	}
	if _, ok := m.rules[cut[1]]; ok {
		return m.fail("rule")
	}
	if len(bound) == 0 {
		return m.fail("syntax")
	}
	for i, line := range bound {
		m.at = line.at
		cutBound := bindingLine.FindStringSubmatch(line.text)
		if i > 0 || cutBound == nil || cutBound[1] != "command" {
			return m.fail("syntax")
		}
		if _, ok := m.expand(cutBound[2]); !ok {
			return false
		}
		m.rules[cut[1]] = cutBound[2]
	}
	return true
}

type modelLine struct {
	at   int
	text string
}

func modelLines(text string) []modelLine {
	var lines []modelLine
	raw := strings.Split(text, "\n")
	for i := 0; i < len(raw); i++ {
		line := modelLine{i + 1, raw[i]}
		for {
			dollars := 0
			for dollars < len(line.text) && line.text[len(line.text)-1-dollars] == '$' {
				dollars++
			}
			if dollars%2 == 0 {
				break
			}
			line.text = line.text[:len(line.text)-1]
			if i+1 == len(raw) {
				break
			}
			i++
			line.text += strings.TrimLeft(raw[i], " ")
		}
		if said := strings.Trim(line.text, " "); said != "" && said[0] != '#' {
			lines = append(lines, line)
		}
	}
	return lines
}

func (m *modelManifest) statement(text string, bound []modelLine) bool {
	stray := len(bound) > 0
	ok := true
	switch {
	case text[0] == ' ':
		return m.fail("syntax")
	case strings.HasPrefix(text, "rule "):
		return m.rule(text, bound)
	case strings.HasPrefix(text, "build "):
		ok, stray = m.build(text[len("build "):]), false
	case strings.HasPrefix(text, "default "):
		var paths []string
		if paths, ok = m.tokens(text[len("default "):], ""); ok && len(paths) == 0 {
			return m.fail("syntax")
		}
		m.defaults = append(m.defaults, paths...)
	default:
		ok = m.bind(text, m.vars, m.vars)
	}
	for _, line := range bound {
		if !ok {
			return false
		}
		m.at = line.at
		if stray {
			return m.fail("syntax")
		}
		own := m.edges[len(m.edges)-1].own
		ok = m.bind(line.text, own, own, m.vars)
	}
	return ok
}

// modelParsed tells of a text what parsed tells of it.
func modelParsed(text string) string {
	m := &modelManifest{vars: map[string]string{}, rules: map[string]string{}}
	if len(text) > 4000 {
		return "syntax at 0"
	}
	lines := modelLines(text)
	for i := 0; i < len(lines); {
		first := lines[i]
		end := i + 1
		for end < len(lines) && lines[end].text[0] == ' ' {
			end++
		}
		m.at = first.at
		if !m.statement(first.text, lines[i+1:end]) {
			return m.failed
		}
		i = end
	}
	m.at = 0
	var edges []builder.Edge
	for _, e := range m.edges {
		given := map[string]string{"in": strings.Join(e.edge.Ins, " "), "out": strings.Join(e.edge.Outs, " ")}
		command, ok := m.expand(m.rules[e.edge.Rule], given, e.own, m.vars)
		if !ok {
			return m.failed
		}
		e.edge.Command = command
		edges = append(edges, e.edge)
	}
	return told(edges)
}

// scribe writes manifests by chance: mostly sound, some with a piece that is not.
type scribe struct {
	*rand.Rand
	wrong int // of how many pieces one is taken by chance
}

func (s scribe) of(list ...string) string { return list[s.Intn(len(list))] }

func (s scribe) blanks() string { return s.of("", " ", " ", "  ", " $\n ", "$\n") }

func (s scribe) noise() string {
	return s.of("$", "$$", "$.", "${", "}", "${v", "${v}", "$v", "$ ", "$:", "$|", ":", "|", "||", " ", "=", "\n", "$\n", "#", "é", ".log", "\t", "a", "rule ", "build ", "default ", "\n ")
}

func (s scribe) chance() bool { return s.Intn(s.wrong) == 0 }

func (s scribe) path() string {
	if s.chance() {
		return s.noise() + s.noise()
	}
	return s.of("a", "b", "c", "d", "e", "f", "$v", "${w}x", "g$none", "x.$v", "-/_", ".log$v")
}

func (s scribe) paths(most int) string {
	text := ""
	for range s.Intn(most + 1) {
		text += " " + s.blanks() + s.path()
	}
	return text
}

func (s scribe) value() string {
	text := ""
	for range s.Intn(4) {
		text += s.of("x", "$v", "${w}", "$in", "$out", ".", "$$", "-", "1", "$v$v$v$v", "$big", "$big$big")
		if s.chance() {
			text += s.noise()
		}
	}
	return text
}

func (s scribe) binding() string {
	return s.of("v", "w", "v", "w", "in", "out", "build", "command", "big") + s.blanks() + "=" + s.blanks() + s.value()
}

func (s scribe) statement() string {
	if s.chance() {
		return s.noise() + s.noise() + s.noise() + s.noise()
	}
	switch s.Intn(5) {
	case 0:
		return s.binding()
	case 1:
		return "rule " + s.of("p", "o", "n", "m") + s.blanks() + "\n" + s.of(" ", "  ") + "command" + s.blanks() + "=" + s.value()
	case 2:
		return "default " + s.path() + s.paths(2)
	}
	text := "build " + s.path() + s.paths(1) + s.of("", "", " |"+s.paths(2)) + s.blanks() + ":" + s.blanks() + s.of("r", "q", "r", "q", "p") + s.paths(3) + s.of("", " |"+s.paths(2)) + s.of("", "||"+s.paths(2))
	for range s.Intn(3) {
		text += "\n " + s.blanks() + s.binding()
	}
	return text
}

func (s scribe) text() string {
	text := "v = h\nw = k\nbig = " + strings.Repeat("y", 1000+s.Intn(600)) + "\nrule r\n command = cat $in $v\nrule q\n command = $big$v$in$big$w\n"
	for range 1 + s.Intn(6) {
		text += s.statement() + s.of("\n", "\n", "\n", "\n\n", "\n # x\n")
	}
	return text
}

func TestParseAgainstAModel(t *testing.T) {
	seen := map[string]int{}
	for i := range 20000 {
		s := scribe{rand.New(rand.NewSource(int64(i))), 10 + i%200}
		text := s.text()
		got, want := parsed(t, text), modelParsed(text)
		if got != want {
			t.Fatalf("text %d: Parse(%q): %s, want %s", i, text, got, want)
		}
		what, _, wrong := strings.Cut(got, " at ")
		if !wrong {
			what = "fine"
		}
		if strings.HasSuffix(got, " at 0") {
			what += " at 0"
		}
		seen[what]++
	}
	for _, what := range []string{"fine", "syntax", "name", "rule", "twice", "syntax at 0"} {
		if seen[what] < 100 {
			t.Errorf("only %d of the texts are %q: %v", seen[what], what, seen)
		}
	}
}

// Any text ends in a manifest or a Fault.
func FuzzParse(f *testing.F) {
	f.Add("rule c\n  command = cat $in\nbuild o | p: c a b | d || e\n v = ${in}$$\ndefault o$\n  p\n")
	f.Fuzz(func(t *testing.T, text string) {
		if got, want := parsed(t, text), modelParsed(text); got != want {
			t.Fatalf("Parse(%q): %s, want %s", text, got, want)
		}
	})
}
