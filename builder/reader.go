package builder

import "strings"

// reader reads a manifest, statement by statement. What it refuses stops it by a panic: see fail.
type reader struct {
	at       int    // the line that is being read; 0: the text as a whole
	lines    []line // those that are not read yet
	vars     *scope
	rules    map[string]rule
	made     map[string]struct{} // the outs of all edges so far
	drafts   []draft
	defaults []string
}

type rule struct {
	command string
}

// readManifest is where reading begins, and where the panic that stops it is caught.
func readManifest(text string) (manifest *Manifest, err error) {
	defer func() {
		caught := recover()
		if caught == nil {
			return
		}
		fault, ok := caught.(*Fault)
		if !ok {
			panic(caught)
		}
		err = fault
	}()
	r := &reader{vars: newScope(nil), rules: map[string]rule{}, made: map[string]struct{}{}}
	r.need(len(text) <= mostBytes, ErrSyntax)
	r.lines = linesOf(text)
	for len(r.lines) > 0 {
		r.readStatement()
	}
	r.at = 0
	return &Manifest{edges: r.finishedEdges(), defaults: r.defaults}, nil
}

// fail stops the reading, at the line that is being read.
func (r *reader) fail(reason error) {
	panic(&Fault{At: r.at, Err: reason})
}

func (r *reader) need(holds bool, reason error) {
	if !holds {
		r.fail(reason)
	}
}

// take tells the next line's text.
func (r *reader) take() string {
	next := r.lines[0]
	r.lines, r.at = r.lines[1:], next.at
	return next.text
}

// boundAhead tells whether the next line is a binding behind the rule or edge that was read last.
func (r *reader) boundAhead() bool {
	return len(r.lines) > 0 && strings.HasPrefix(r.lines[0].text, " ")
}

func (r *reader) readStatement() {
	text := r.take()
	r.need(!strings.HasPrefix(text, " "), ErrSyntax)
	first, rest := cutWord(text)
	if !strings.HasPrefix(rest, " ") {
		first = ""
	}
	switch first {
	case "rule":
		r.readRule(rest)
	case "build":
		r.readEdge(rest)
	case "default":
		r.readDefaults(rest)
	default:
		r.readVariable(text, r.vars)
	}
}

// readVariable reads a binding into a scope, its value by what that scope tells so far.
func (r *reader) readVariable(text string, vars *scope) {
	name, value := r.cutBinding(text)
	vars.set(name, r.expand(value, vars))
}

// cutBinding takes a binding apart; its value is as it stands.
func (r *reader) cutBinding(text string) (name, value string) {
	name, rest := cutWord(withoutBlanks(text))
	rest = withoutBlanks(rest)
	r.need(name != "" && strings.HasPrefix(rest, "="), ErrSyntax)
	return name, withoutBlanks(rest[1:])
}

func (r *reader) readRule(text string) {
	name, rest := cutWord(withoutBlanks(text))
	r.need(name != "" && withoutBlanks(rest) == "", ErrSyntax)
	_, known := r.rules[name]
	r.need(!known, ErrRule)
	r.need(r.boundAhead(), ErrSyntax)
	r.rules[name] = rule{r.readCommand()}
	if r.boundAhead() {
		r.take()
		r.fail(ErrSyntax)
	}
}

// readCommand reads a rule's binding. Its value waits for an edge's variables.
func (r *reader) readCommand() string {
	name, value := r.cutBinding(r.take())
	r.need(name == "command", ErrSyntax)
	// Without variables nothing can come of it that is too long: only what a `$` may not begin is refused.
	r.expand(value, nil)
	return value
}

func (r *reader) readDefaults(text string) {
	paths := r.readPaths(text)[0].paths
	r.need(len(paths) > 0, ErrSyntax)
	r.defaults = append(r.defaults, paths...)
}
