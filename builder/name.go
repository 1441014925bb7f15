package builder

const nameBytes = 32

// isName tells whether a text may be a file's name.
func isName(text string) bool {
	if len(text) < 1 || len(text) > nameBytes {
		return false
	}
	for i := range len(text) {
		if !isNameByte(text[i]) {
			return false
		}
	}
	return true
}

func isNameByte(c byte) bool {
	return isWordByte(c) || c == '.' || c == '/'
}

func isWordByte(c byte) bool {
	switch {
	case 'a' <= c && c <= 'z', 'A' <= c && c <= 'Z', '0' <= c && c <= '9':
		return true
	case c == '_', c == '-':
		return true
	}
	return false
}
