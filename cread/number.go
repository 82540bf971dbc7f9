package cread

import (
	"gantline/api"
	"gantline/dec"
	"gantline/nat"
)

// The tags that make numbers.
const (
	tagWhole   = 2
	tagBelow   = 3
	tagDecimal = 4
)

// farPower is the greatest power of 10 that a number is looked at with.
const farPower = 1_000_000

// tagged is the node of a tag and what it stands ahead of; an error, if that would be a number that layer 5 or 6 refuses.
func tagged(tag uint64, kid api.Node) (api.Node, api.Errno) {
	switch {
	case tag == tagWhole && kid.Kind == api.Bytes:
		digits, why := nat.FromBytes(kid.Bytes)
		return api.Node{Kind: api.Int, Digits: digits}, why
	case tag == tagBelow && kid.Kind == api.Bytes:
		digits, why := nat.FromBytes(kid.Bytes)
		if why != api.OK {
			return api.Node{}, why
		}
		return below(digits)
	case tag == tagDecimal && isPair(kid):
		return decimal(kid.Kids[0], kid.Kids[1])
	}
	return api.Node{Kind: api.Tag, N: tag, Kids: []api.Node{kid}}, api.OK
}

// below is the Int -1 less a number.
func below(digits string) (api.Node, api.Errno) {
	more, why := nat.Add(digits, "1")
	return api.Node{Kind: api.Int, Neg: true, Digits: more}, why
}

// isPair tells whether a node is an Array of two Int.
func isPair(n api.Node) bool {
	return n.Kind == api.Array && len(n.Kids) == 2 && n.Kids[0].Kind == api.Int && n.Kids[1].Kind == api.Int
}

// decimal is an Int, times 10 to the power of another.
func decimal(power, size api.Node) (api.Node, api.Errno) {
	exp, ok := nat.ToWord(power.Digits)
	if !ok || exp > farPower {
		return api.Node{}, api.ErrNum
	}
	n, why := dec.Make(size.Neg, size.Digits, signed(power.Neg, int(exp)))
	if why != api.OK {
		return api.Node{}, why
	}
	if digits, whole := dec.Whole(n); whole {
		return api.Node{Kind: api.Int, Neg: n.Neg, Digits: digits}, api.OK
	}
	return api.Node{Kind: api.Dec, Neg: n.Neg, Digits: n.Digits, Exp: n.Exp}, api.OK
}

// signed is a number with its sign.
func signed(neg bool, n int) int {
	if neg {
		return -n
	}
	return n
}
