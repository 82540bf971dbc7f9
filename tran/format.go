package tran

import (
	"strconv"
	"strings"

	"gantline/api"
	"gantline/cread"
	"gantline/csay"
	"gantline/jread"
	"gantline/jsay"
)

// format is how the messages of one are read and written.
type format struct {
	read  func(m []byte) (api.Node, api.Fault)
	write func(n api.Node) ([]byte, api.Errno)
}

// formatOf is the format of a number; false, if there is none.
func formatOf(number int) (format, bool) {
	switch number {
	case api.Json:
		return format{read: jread.Parse, write: jsay.Print}, true
	case api.Cbor:
		return format{read: cread.Decode, write: csay.Encode}, true
	}
	return format{}, false
}

// bothOf are the formats of two numbers; false, if one is none.
func bothOf(from, to int) (format, format, bool) {
	source, known := formatOf(from)
	target, ok := formatOf(to)
	return source, target, known && ok
}

// record is a fault as a message of a format.
func record(target format, f api.Fault) []byte {
	n := api.Node{
		Kind: api.Map,
		Keys: []api.Node{textNode("error"), textNode("at")},
		Kids: []api.Node{intNode(int(f.Why)), intNode(f.At)},
	}
	// No error can come: each format has texts and numbers of 64 bits, and room for two of each.
	m, _ := target.write(n)
	return m
}

// textNode is a Text.
func textNode(text string) api.Node { return api.Node{Kind: api.Text, Text: text} }

// intNode is the Int of a number. Its sign is cut off its text, since the least number has no positive counterpart.
func intNode(n int) api.Node {
	digits, neg := strings.CutPrefix(strconv.Itoa(n), "-")
	return api.Node{Kind: api.Int, Neg: neg, Digits: digits}
}
