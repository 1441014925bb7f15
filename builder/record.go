package builder

import (
	"strings"

	"builder/sums"
)

const (
	sumBytes = 32
	crcBytes = 4
)

// record tells of what a file was made (the signature), and what came of it (the sum).
type record struct {
	name           string
	signature, sum [sumBytes]byte
}

// recordsText tells records as they stand in the log.
func recordsText(records ...record) string {
	var text strings.Builder
	for _, each := range records {
		body := each.body()
		text.WriteByte(byte(len(body)))
		text.WriteString(body)
		text.WriteString(fourBytes(sums.CRC(body)))
	}
	return text.String()
}

func (r record) body() string {
	var text strings.Builder
	text.WriteByte(byte(len(r.name)))
	text.WriteString(r.name)
	text.Write(r.signature[:])
	text.Write(r.sum[:])
	return text.String()
}

// cutRecord takes the first record off a text. It is false if the text does not begin with one.
func cutRecord(text string) (first record, rest string, ok bool) {
	body, rest, whole := cutBody(text)
	if !whole {
		return record{}, "", false
	}
	first, ok = recordOf(body)
	return first, rest, ok
}

// cutBody takes a record's body off a text. It is false if that is cut short or spoilt.
func cutBody(text string) (body, rest string, whole bool) {
	if text == "" {
		return "", "", false
	}
	end := 1 + int(text[0])
	if len(text) < end+crcBytes {
		return "", "", false
	}
	body, rest = text[1:end], text[end+crcBytes:]
	return body, rest, text[end:end+crcBytes] == fourBytes(sums.CRC(body))
}

// recordOf takes a body apart. A CRC that is right does not make a record of it: whoever writes files may write that too.
func recordOf(body string) (record, bool) {
	nameLength := len(body) - 1 - 2*sumBytes
	if nameLength < 0 || int(body[0]) != nameLength {
		return record{}, false
	}
	name, rest := body[1:1+nameLength], body[1+nameLength:]
	of := record{name: name}
	copy(of.signature[:], rest)
	copy(of.sum[:], rest[sumBytes:])
	return of, isName(name)
}
