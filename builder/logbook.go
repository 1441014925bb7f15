package builder

import "strings"

// The log's files: the second is the first's next state, until it is whole and safe.
const (
	logName    = ".log"
	newLogName = ".log.new"
)

const logHead = "builderlog1\n"

// logbook is what the log tells.
type logbook struct {
	records int      // how many it has, also those that are not the last of their file
	names   []string // of its files, in the order in which they first came
	last    map[string]record
}

func newLogbook(records ...record) *logbook {
	l := &logbook{last: map[string]record{}}
	l.note(records...)
	return l
}

// readLog tells what a log's text tells, and whether nothing else is in it.
func readLog(text string) (l *logbook, sound bool) {
	l = newLogbook()
	rest, begins := strings.CutPrefix(text, logHead)
	if !begins {
		return l, false
	}
	for rest != "" {
		next, behind, ok := cutRecord(rest)
		if !ok {
			return l, false
		}
		l.note(next)
		rest = behind
	}
	return l, true
}

// note takes records down, behind those that are there.
func (l *logbook) note(records ...record) {
	for _, each := range records {
		if _, known := l.last[each.name]; !known {
			l.names = append(l.names, each.name)
		}
		l.last[each.name] = each
		l.records++
	}
}

// lastRecords tells the last record of each file.
func (l *logbook) lastRecords() []record {
	records := make([]record, 0, len(l.names))
	for _, name := range l.names {
		records = append(records, l.last[name])
	}
	return records
}

// isLong tells whether the log has so many records that it is worth making it anew.
func (l *logbook) isLong() bool {
	return l.records > 2*len(l.names)+8
}
