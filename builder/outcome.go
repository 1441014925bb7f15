package builder

import (
	"slices"
	"strings"

	"builder/sums"
)

// outcome is what came of an edge.
type outcome int

const (
	ran outcome = iota
	clean
	failed
	blocked
)

// input is a file that an edge may read.
type input struct {
	data string
	sum  [sumBytes]byte
}

// build makes what an edge makes, if it has to be made.
func (j *job) build(edge Edge) (outcome, error) {
	if j.isBlocked(edge) {
		return blocked, nil
	}
	inputs, all := j.readInputs(edge)
	if !all || !j.areThere(edge.Order) {
		return failed, nil
	}
	signature := signatureOf(edge, inputs)
	if j.isClean(edge.Outs, signature) {
		return clean, nil
	}
	made, ok := Run(edge.Command, func(name string) (string, bool) {
		of, may := inputs[name]
		return of.data, may
	})
	if !ok {
		return failed, nil
	}
	return ran, j.keep(edge.Outs, made, signature)
}

// isBlocked asks for the next edges alone: what hangs on a blocked one is blocked by it.
func (j *job) isBlocked(edge Edge) bool {
	return slices.ContainsFunc(filesNeeded(edge), func(name string) bool {
		_, unmade := j.unmade[name]
		return unmade
	})
}

// readInputs reads the files that an edge may read. It is false if one of them is not there.
func (j *job) readInputs(edge Edge) (map[string]input, bool) {
	inputs := map[string]input{}
	for _, name := range filesRead(edge) {
		// A path may stand there often: its file is summed up once.
		if _, known := inputs[name]; known {
			continue
		}
		data, err := j.files.Read(name)
		if err != nil {
			return nil, false
		}
		inputs[name] = input{data, sums.Of(data)}
	}
	return inputs, true
}

func (j *job) areThere(names []string) bool {
	for _, name := range names {
		if _, err := j.files.Read(name); err != nil {
			return false
		}
	}
	return true
}

// filesRead tells the files that an edge's command may read.
func filesRead(edge Edge) []string {
	return slices.Concat(edge.Ins, edge.Implicit)
}

// signatureOf tells in one sum all that what an edge makes hangs on.
func signatureOf(edge Edge, inputs map[string]input) [sumBytes]byte {
	var text strings.Builder
	text.WriteString(edge.Command)
	text.WriteByte(0)
	for _, name := range filesRead(edge) {
		of := inputs[name]
		text.WriteString(name)
		text.WriteByte(0)
		text.Write(of.sum[:])
	}
	return sums.Of(text.String())
}

// isClean tells whether all outs are as they would be made now.
func (j *job) isClean(outs []string, signature [sumBytes]byte) bool {
	for _, out := range outs {
		last, known := j.log.last[out]
		if !known || last.signature != signature {
			return false
		}
		data, err := j.files.Read(out)
		if err != nil || last.sum != sums.Of(data) {
			return false
		}
	}
	return true
}

// keep writes outs and their records. The outs are safe first: a record must not tell of what a crash may still take.
func (j *job) keep(outs []string, made string, signature [sumBytes]byte) error {
	sum := sums.Of(made)
	var records []record
	for _, out := range outs {
		if err := j.files.Write(out, made); err != nil {
			return err
		}
		records = append(records, record{out, signature, sum})
	}
	if err := j.files.Sync(); err != nil {
		return err
	}
	if err := j.files.Append(logName, recordsText(records...)); err != nil {
		return err
	}
	j.log.note(records...)
	return j.files.Sync()
}
