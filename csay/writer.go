package csay

import (
	"math"
	"math/bits"

	"gantline/api"
	"gantline/flt"
	"gantline/nat"
)

// The major types.
const (
	majorWhole = iota
	majorBelow
	majorBytes
	majorText
	majorArray
	majorMap
	majorTag
	majorOther // simple values and Floats
)

// lowOne tells, in the low bits of a first byte, that the argument is in the one byte behind; the numbers behind it, that it is in 2, 4 and 8.
const lowOne = 24

// What simple values mean that are no Simple.
const (
	simpleFalse = 20
	simpleNull  = 22
)

// The tags that make numbers.
const (
	tagWhole   = 2
	tagBelow   = 3
	tagDecimal = 4
)

// item are the bytes of a tree that may be, as join keeps them.
func item(n api.Node) []byte {
	switch n.Kind {
	case api.Bool:
		return head(majorOther, simpleFalse+n.N)
	case api.Int:
		return whole(n.Neg, n.Digits)
	case api.Dec:
		return join(head(majorTag, tagDecimal), head(majorArray, 2), power(n.Exp), whole(n.Neg, n.Digits))
	case api.Float:
		return float(n.N)
	case api.Text:
		return run(majorText, []byte(n.Text))
	case api.Bytes:
		return run(majorBytes, n.Bytes)
	case api.Array:
		return join(head(majorArray, uint64(len(n.Kids))), items(n.Kids))
	case api.Map:
		return join(head(majorMap, uint64(len(n.Kids))), pairs(n.Keys, n.Kids))
	case api.Tag:
		return join(head(majorTag, n.N), items(n.Kids))
	case api.Simple:
		return head(majorOther, n.N)
	}
	return head(majorOther, simpleNull)
}

// items are the bytes of trees, one behind the other.
func items(list []api.Node) []byte {
	var parts [][]byte
	for _, n := range list {
		parts = append(parts, item(n))
	}
	return join(parts...)
}

// pairs are the bytes of a Map's Keys, each with its Kid behind it.
func pairs(keys, kids []api.Node) []byte {
	var parts [][]byte
	for i, key := range keys {
		parts = append(parts, item(key), item(kids[i]))
	}
	return join(parts...)
}

// whole are the bytes of an Int.
func whole(neg bool, digits string) []byte {
	if neg {
		// No error can come: an Int below 0 has digits of 1 at least.
		less, _ := nat.Sub(digits, "1")
		return natural(majorBelow, tagBelow, less)
	}
	return natural(majorWhole, tagWhole, digits)
}

// natural are the bytes of a number: the argument of a major type, or, where that has no room for it, Bytes behind a tag.
func natural(major int, tag uint64, digits string) []byte {
	if n, ok := nat.ToWord(digits); ok {
		return head(major, n)
	}
	b, _ := nat.ToBytes(digits)
	return join(head(majorTag, tag), run(majorBytes, b))
}

// power are the bytes of a Dec's Exp.
func power(exp int) []byte {
	if exp < 0 {
		return head(majorBelow, uint64(-1-exp))
	}
	return head(majorWhole, uint64(exp))
}

// float are the bytes of a Float.
func float(wide uint64) []byte {
	short, width := flt.Narrow(wide)
	return wideHead(majorOther, width, short)
}

// run are the bytes of a Text or of Bytes.
func run(major int, b []byte) []byte { return join(head(major, uint64(len(b))), b) }

// head is an item's beginning, with the argument in as few bytes as can be.
func head(major int, n uint64) []byte {
	switch {
	case n < lowOne:
		return []byte{first(major, int(n))}
	case n <= math.MaxUint8:
		return wideHead(major, 1, n)
	case n <= math.MaxUint16:
		return wideHead(major, 2, n)
	case n <= math.MaxUint32:
		return wideHead(major, 4, n)
	}
	return wideHead(major, 8, n)
}

// wideHead is an item's beginning, with the argument in so many bytes behind the first one: 1, 2, 4 or 8.
func wideHead(major, width int, n uint64) []byte {
	b := []byte{first(major, lowOne+bits.TrailingZeros(uint(width)))}
	for behind := width - 1; behind >= 0; behind-- {
		b = append(b, byte(n>>(8*behind)))
	}
	return b
}

// first is an item's first byte.
func first(major, low int) byte { return byte(major<<5 | low) }

// join is parts one behind the other, in new memory. It ends with the part that makes them too long: trees may share their lists, so that the whole could be far longer than what was handed in.
func join(parts ...[]byte) []byte {
	var all []byte
	for _, part := range parts {
		if len(all) > api.MaxBytes {
			break
		}
		all = append(all, part...)
	}
	return all
}
