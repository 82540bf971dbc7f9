package jlex

import (
	"strings"

	"gantline/api"
	"gantline/utf"
)

// The signs that tell a character behind a \ and the characters that they mean, in one order. The / is not among them: it may be told so, but need not.
const (
	shortSigns = `"\bfnrt`
	shortMeans = "\"\\\b\f\n\r\t"
)

const (
	smallDigits = "0123456789abcdef"
	// leastPlain is the first character that may stand in a string as it is.
	leastPlain = 32
)

// Escape writes a string.
func Escape(s string) string {
	if utf.Check([]byte(s)).Why != api.OK {
		return ""
	}
	var told strings.Builder
	told.WriteByte('"')
	for _, r := range s {
		escapeRune(&told, r)
	}
	told.WriteByte('"')
	return told.String()
}

// escapeRune writes one character of a string.
func escapeRune(told *strings.Builder, r rune) {
	short := strings.IndexRune(shortMeans, r)
	switch {
	case short >= 0:
		told.WriteByte('\\')
		told.WriteByte(shortSigns[short])
	case r < leastPlain:
		told.WriteString(`\u00`)
		told.WriteByte(smallDigits[r>>4])
		told.WriteByte(smallDigits[r&15])
	default:
		told.WriteRune(r)
	}
}
