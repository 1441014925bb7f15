package builder

import (
	"slices"
	"strings"
)

const mostEdges = 64

// Marks: what stands ahead of implicit paths, and of order ones.
const (
	implicitMark = "|"
	orderMark    = "||"
)

// draft is an edge whose command waits for the text's end.
type draft struct {
	edge Edge
	own  *scope
}

// section is paths, and the mark ahead of them ("": they are the first).
type section struct {
	mark  string
	paths []string
}

// readEdge reads a build line and the bindings behind it.
func (r *reader) readEdge(text string) {
	colon := freeIndex(text, ":")
	r.need(colon < len(text), ErrSyntax)
	outs := r.readPaths(text[:colon], implicitMark)
	name, rest := cutWord(withoutBlanks(text[colon+1:]))
	ins := r.readPaths(rest, implicitMark, orderMark)
	r.need(len(outs[0].paths) > 0 && len(outs) <= 2, ErrSyntax)
	r.need(name != "" && rising(ins), ErrSyntax)
	r.need(len(r.drafts) < mostEdges, ErrSyntax)
	_, known := r.rules[name]
	r.need(known, ErrRule)
	edge := Edge{
		Outs:     slices.Concat(outs[0].paths, pathsBehind(outs, implicitMark)),
		Ins:      ins[0].paths,
		Implicit: pathsBehind(ins, implicitMark),
		Order:    pathsBehind(ins, orderMark),
		Rule:     name,
	}
	r.claim(edge.Outs)
	own := newScope(r.vars)
	for r.boundAhead() {
		r.readVariable(r.take(), own)
	}
	r.drafts = append(r.drafts, draft{edge, own})
}

// readPaths reads paths from the left; of the marks between them it takes these alone.
func (r *reader) readPaths(text string, marks ...string) []section {
	sections := []section{{}}
	for {
		text = withoutBlanks(text)
		mark := markOf(text)
		switch {
		case text == "":
			return sections
		case mark == "":
			end := freeIndex(text, " :|")
			last := &sections[len(sections)-1]
			last.paths = append(last.paths, r.readPath(text[:end]))
			text = text[end:]
		default:
			r.need(slices.Contains(marks, mark), ErrSyntax)
			sections = append(sections, section{mark: mark})
			text = text[len(mark):]
		}
	}
}

// markOf tells the mark that a text begins with ("", if there is none).
func markOf(text string) string {
	switch {
	case strings.HasPrefix(text, orderMark):
		return orderMark
	case strings.HasPrefix(text, implicitMark), strings.HasPrefix(text, ":"):
		return text[:1]
	}
	return ""
}

func (r *reader) readPath(text string) string {
	path := r.expand(text, r.vars)
	// The log's names stay free for the log.
	r.need(isName(path) && path != logName && path != newLogName, ErrName)
	return path
}

// rising tells whether no mark stands twice, and none ahead of a shorter one.
func rising(sections []section) bool {
	for i := 1; i < len(sections); i++ {
		if len(sections[i].mark) <= len(sections[i-1].mark) {
			return false
		}
	}
	return true
}

// pathsBehind tells the paths behind a mark.
func pathsBehind(sections []section, mark string) []string {
	for _, each := range sections {
		if each.mark == mark {
			return each.paths
		}
	}
	return nil
}

// claim takes down which files an edge makes: none may be made twice.
func (r *reader) claim(outs []string) {
	for _, out := range outs {
		_, twice := r.made[out]
		r.need(!twice, ErrTwice)
		r.made[out] = struct{}{}
	}
}

// finishedEdges tells all edges with their commands.
func (r *reader) finishedEdges() []Edge {
	edges := make([]Edge, 0, len(r.drafts))
	for _, each := range r.drafts {
		edge := each.edge
		vars := newScope(each.own)
		vars.set("in", strings.Join(edge.Ins, " "))
		vars.set("out", strings.Join(edge.Outs, " "))
		edge.Command = r.expand(r.rules[edge.Rule].command, vars)
		edges = append(edges, edge)
	}
	return edges
}
