package builder

import (
	"maps"
	"slices"
	"sync"
)

// mostRoom is how many bytes there is room for at most.
const mostRoom = 65536

// Files is a stand-in for files (P4).
type Files struct {
	lock      sync.Mutex
	room      int
	now, safe map[string]file
	since     []operation // what was done since all was safe
	fuse      int         // how many operations are left, the last of which goes down; 0: no fuse is lit
	down      bool
}

type file struct {
	data string
}

// operation is kept until all is safe, for a crash to do it again.
type operation struct {
	do   func(part string)
	data string
	cuts bool // a crash may do it with a part of its data
}

// NewFiles makes one with so much room (P4).
func NewFiles(room int) *Files {
	return &Files{room: roomWithin(room), now: map[string]file{}, safe: map[string]file{}}
}

// Read tells a file (P4).
func (f *Files) Read(name string) (string, error) {
	f.lock.Lock()
	defer f.lock.Unlock()
	was, ok := f.now[name]
	if !ok {
		return "", ErrNone
	}
	return was.data, nil
}

// Names tells the names of all files (P4).
func (f *Files) Names() []string {
	f.lock.Lock()
	defer f.lock.Unlock()
	names := make([]string, 0, len(f.now))
	for name := range f.now {
		names = append(names, name)
	}
	slices.Sort(names)
	return names
}

// Write puts a file in the place of what is there (P4).
func (f *Files) Write(name, data string) error {
	f.lock.Lock()
	defer f.lock.Unlock()
	switch {
	case !isName(name):
		return ErrName
	case f.bytes()-len(f.now[name].data)+len(data) > f.room:
		return ErrRoom
	}
	return f.operate(operation{data: data, cuts: true, do: func(part string) {
		f.now[name] = file{part}
	}})
}

// Append puts bytes behind a file (P4).
func (f *Files) Append(name, data string) error {
	f.lock.Lock()
	defer f.lock.Unlock()
	switch {
	case !isName(name):
		return ErrName
	case f.bytes()+len(data) > f.room:
		return ErrRoom
	}
	return f.operate(operation{data: data, cuts: true, do: func(part string) {
		f.now[name] = file{f.now[name].data + part}
	}})
}

// Rename gives a file another name (P4).
func (f *Files) Rename(from, to string) error {
	f.lock.Lock()
	defer f.lock.Unlock()
	switch {
	case !isName(from), !isName(to):
		return ErrName
	case !f.has(from):
		return ErrNone
	}
	return f.operate(operation{do: func(string) {
		was := f.now[from]
		// Taken away first: from and to may be one name.
		delete(f.now, from)
		f.now[to] = was
	}})
}

// Remove takes a file away (P4).
func (f *Files) Remove(name string) error {
	f.lock.Lock()
	defer f.lock.Unlock()
	switch {
	case !isName(name):
		return ErrName
	case !f.has(name):
		return ErrNone
	}
	return f.operate(operation{do: func(string) {
		delete(f.now, name)
	}})
}

// Sync makes all safe (P4).
func (f *Files) Sync() error {
	f.lock.Lock()
	defer f.lock.Unlock()
	if f.burn() {
		return ErrDown
	}
	f.keepSafe()
	return nil
}

// Fuse lets the files go down later (P4).
func (f *Files) Fuse(n int) {
	f.lock.Lock()
	defer f.lock.Unlock()
	f.fuse = max(n, 0)
}

// Crash loses what is not safe, but for its beginning (P4).
func (f *Files) Crash(keep, cut int) {
	f.lock.Lock()
	defer f.lock.Unlock()
	f.now = maps.Clone(f.safe)
	keep = min(max(keep, 0), len(f.since))
	for _, kept := range f.since[:keep] {
		kept.do(kept.data)
	}
	if cut >= 0 && keep < len(f.since) && f.since[keep].cuts {
		next := f.since[keep]
		next.do(next.data[:min(cut, len(next.data))])
	}
	f.keepSafe()
	f.fuse, f.down = 0, false
}

// Room changes how much room there is (P4).
func (f *Files) Room(room int) {
	f.lock.Lock()
	defer f.lock.Unlock()
	f.room = roomWithin(room)
}

// operate does what nothing but ErrDown can refuse.
func (f *Files) operate(next operation) error {
	if f.burn() {
		return ErrDown
	}
	next.do(next.data)
	f.since = append(f.since, next)
	return nil
}

// burn lets the fuse burn by one operation, and tells whether the files are down.
func (f *Files) burn() bool {
	if f.fuse > 0 {
		f.fuse--
		f.down = f.down || f.fuse == 0
	}
	return f.down
}

func (f *Files) keepSafe() {
	f.safe = maps.Clone(f.now)
	f.since = nil
}

func (f *Files) has(name string) bool {
	_, ok := f.now[name]
	return ok
}

// bytes tells how many bytes all files have together.
func (f *Files) bytes() int {
	total := 0
	for _, each := range f.now {
		total += len(each.data)
	}
	return total
}

func roomWithin(room int) int {
	return min(max(room, 0), mostRoom)
}
