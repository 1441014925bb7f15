package builder

// scope tells variables; one that it does not know is sought in the next.
type scope struct {
	variables map[string]variable
	next      *scope
}

type variable struct {
	value string
}

func newScope(next *scope) *scope {
	return &scope{variables: map[string]variable{}, next: next}
}

func (s *scope) set(name, value string) {
	s.variables[name] = variable{value}
}

// value tells a variable: "", if no scope knows it.
func (s *scope) value(name string) string {
	for at := s; at != nil; at = at.next {
		if known, ok := at.variables[name]; ok {
			return known.value
		}
	}
	return ""
}
