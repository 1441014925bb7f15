package builder

import "slices"

// mostBytes is how many bytes a manifest may have, and what a `$` stands for with all ahead of it.
const mostBytes = 4000

// Manifest tells what is to be built.
type Manifest struct {
	edges    []Edge
	defaults []string
}

// Parse makes a manifest of a text (P5 to P7).
func Parse(text string) (*Manifest, error) {
	return readManifest(text)
}

// Edges tells all edges (P7).
func (m *Manifest) Edges() []Edge {
	edges := make([]Edge, 0, len(m.edges))
	for _, edge := range m.edges {
		// The lists are the caller's from then on, but the manifest never changes.
		edge.Outs = slices.Clone(edge.Outs)
		edge.Ins = slices.Clone(edge.Ins)
		edge.Implicit = slices.Clone(edge.Implicit)
		edge.Order = slices.Clone(edge.Order)
		edges = append(edges, edge)
	}
	return edges
}
