package builder

// stack hands out first what was pushed last.
type stack[T any] struct {
	items []T
}

func (s *stack[T]) empty() bool { return len(s.items) == 0 }

func (s *stack[T]) push(item T) { s.items = append(s.items, item) }

// top tells where the last item is, until the next push. The stack is not empty.
func (s *stack[T]) top() *T { return &s.items[len(s.items)-1] }

func (s *stack[T]) pop() { s.items = s.items[:len(s.items)-1] }
