package builder

// progress is how far a walk is with an edge.
type progress int

const (
	unseen progress = iota
	begun           // what it needs is being walked
	walked          // it has its place in the order
)

// walk puts edges in order, each behind those that it needs.
type walk struct {
	needs [][]int // of each edge
	seen  []progress
	order []int
}

// step is an edge that a walk has begun, and what it needs that was not looked at yet.
type step struct {
	place int
	left  []int
}

func newWalk(needs [][]int) *walk {
	return &walk{needs: needs, seen: make([]progress, len(needs))}
}

// visit brings an edge, and all that it hangs on, into the order. It is false if one of them hangs on itself.
func (w *walk) visit(place int) bool {
	if w.seen[place] == walked {
		return true
	}
	var steps stack[step]
	steps.push(w.begin(place))
walking:
	for !steps.empty() {
		now := steps.top()
		for len(now.left) > 0 {
			next := now.left[0]
			now.left = now.left[1:]
			switch w.seen[next] {
			case begun:
				return false
			case unseen:
				steps.push(w.begin(next))
				continue walking
			}
		}
		w.seen[now.place] = walked
		w.order = append(w.order, now.place)
		steps.pop()
	}
	return true
}

func (w *walk) begin(place int) step {
	w.seen[place] = begun
	return step{place, w.needs[place]}
}
