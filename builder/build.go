package builder

// job is one build, as far as it has come.
type job struct {
	files  *Files
	log    *logbook
	unmade map[string]struct{} // outs of edges that failed or were blocked
	report Report
}

// Build builds what targets need (P11, P12).
func Build(f *Files, text string, targets ...string) (Report, error) {
	m, err := Parse(text)
	if err != nil {
		return Report{}, err
	}
	places, err := m.Order(targets...)
	if err != nil {
		return Report{}, err
	}
	j := &job{files: f, unmade: map[string]struct{}{}}
	err = j.buildAll(m.edges, places)
	return j.report, err
}

func (j *job) buildAll(edges []Edge, places []int) error {
	if err := j.openLog(); err != nil {
		return err
	}
	for _, place := range places {
		done, err := j.build(edges[place])
		if err != nil {
			return err
		}
		j.tell(edges[place], done)
	}
	if j.log.isLong() {
		return j.renewLog()
	}
	return nil
}

// openLog reads the log. What is not sound must not stay: records behind it would never be read.
func (j *job) openLog() error {
	// A log that is not there is read as "", which does not begin as a log either.
	text, _ := j.files.Read(logName)
	log, sound := readLog(text)
	j.log = log
	if sound {
		return nil
	}
	return j.renewLog()
}

// renewLog makes the log anew. Until the new one is safe under its own name, the old one stays: a crash leaves one of them whole.
func (j *job) renewLog() error {
	records := j.log.lastRecords()
	if err := j.files.Write(newLogName, logHead+recordsText(records...)); err != nil {
		return err
	}
	if err := j.files.Sync(); err != nil {
		return err
	}
	if err := j.files.Rename(newLogName, logName); err != nil {
		return err
	}
	j.log = newLogbook(records...)
	return j.files.Sync()
}

// tell puts an edge into the report.
func (j *job) tell(edge Edge, done outcome) {
	first := edge.Outs[0]
	switch done {
	case ran:
		j.report.Ran = append(j.report.Ran, first)
	case clean:
		j.report.Clean = append(j.report.Clean, first)
	case failed:
		j.report.Failed = append(j.report.Failed, first)
		j.miss(edge.Outs)
	case blocked:
		j.report.Blocked = append(j.report.Blocked, first)
		j.miss(edge.Outs)
	}
}

// miss keeps in mind that outs were not made: they may be there all the same, from an earlier build.
func (j *job) miss(outs []string) {
	for _, out := range outs {
		j.unmade[out] = struct{}{}
	}
}
