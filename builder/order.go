package builder

import "slices"

// Order tells the places of the edges that targets need (P8).
func (m *Manifest) Order(targets ...string) ([]int, error) {
	makers := makersOf(m.edges)
	needs := needsOf(m.edges, makers)
	if !runsOut(needs) {
		return nil, ErrCycle
	}
	if len(targets) == 0 {
		targets = m.defaults
	}
	if len(targets) == 0 {
		targets = lastOuts(m.edges)
	}
	way := newWalk(needs)
	for _, target := range targets {
		place, made := makers[target]
		if !made {
			return nil, ErrTarget
		}
		way.visit(place)
	}
	return way.order, nil
}

// makersOf tells, of each file that an edge makes, the edge's place.
func makersOf(edges []Edge) map[string]int {
	makers := map[string]int{}
	for place, edge := range edges {
		for _, out := range edge.Outs {
			makers[out] = place
		}
	}
	return makers
}

// filesNeeded tells all files that an edge hangs on, in the order in which they are to be made.
func filesNeeded(edge Edge) []string {
	return slices.Concat(edge.Ins, edge.Implicit, edge.Order)
}

// needsOf tells, of each edge, the places of those that make the files it needs.
func needsOf(edges []Edge, makers map[string]int) [][]int {
	needs := make([][]int, len(edges))
	for place, edge := range edges {
		for _, file := range filesNeeded(edge) {
			// A file that no edge makes is there, or is not: no edge goes ahead for it.
			if maker, made := makers[file]; made {
				needs[place] = append(needs[place], maker)
			}
		}
	}
	return needs
}

// runsOut tells whether no edge hangs on itself.
func runsOut(needs [][]int) bool {
	way := newWalk(needs)
	for place := range needs {
		if !way.visit(place) {
			return false
		}
	}
	return true
}

// lastOuts tells the outs that no edge hangs on.
func lastOuts(edges []Edge) []string {
	needed := map[string]struct{}{}
	for _, edge := range edges {
		for _, file := range filesNeeded(edge) {
			needed[file] = struct{}{}
		}
	}
	var outs []string
	for _, edge := range edges {
		for _, out := range edge.Outs {
			if _, ok := needed[out]; !ok {
				outs = append(outs, out)
			}
		}
	}
	return outs
}
