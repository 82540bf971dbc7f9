package conv

import (
	"slices"
	"strings"

	"gantline/api"
	"gantline/flt"
)

// base16 are the digits in which Bytes are told, each at the place of its number.
const base16 = "0123456789abcdef"

// tell is what comes of a tree that may be, and its losses. It writes into the tree's lists.
func tell(n api.Node) (api.Node, []api.Loss) {
	var losses []api.Loss
	lose := func(path []int, kind int, n uint64) {
		losses = append(losses, api.Loss{Path: slices.Clone(path), Kind: kind, N: n})
	}
	var come func(n api.Node, path []int) api.Node
	come = func(n api.Node, path []int) api.Node {
		switch n.Kind {
		case api.Float:
			told, kind := number(n.N)
			lose(path, kind, n.N)
			return told
		case api.Bytes:
			lose(path, api.LossBytes, 0)
			return api.Node{Kind: api.Text, Text: digitsOf(n.Bytes)}
		case api.Simple:
			lose(path, api.LossSimple, n.N)
			return api.Node{Kind: api.Null}
		case api.Tag:
			lose(path, api.LossTag, n.N)
			return come(n.Kids[0], path)
		case api.Array:
			for i, kid := range n.Kids {
				n.Kids[i] = come(kid, below(path, i))
			}
			return n
		case api.Map:
			if allTexts(n.Keys) {
				for i, kid := range n.Kids {
					n.Kids[i] = come(kid, below(path, 2*i+1))
				}
				return n
			}
			lose(path, api.LossMap, 0)
			pairs := api.Node{Kind: api.Array}
			for i, key := range n.Keys {
				pair := []api.Node{come(key, below(path, i, 0)), come(n.Kids[i], below(path, i, 1))}
				pairs.Kids = append(pairs.Kids, api.Node{Kind: api.Array, Kids: pair})
			}
			return pairs
		}
		return n
	}
	// A statement of its own: in one with the call, Go leaves open whether losses is read ahead of it.
	told := come(n, nil)
	return told, losses
}

// below is a path that goes on from another.
func below(path []int, steps ...int) []int { return slices.Concat(path, steps) }

// allTexts tells whether all keys are such as JSON has.
func allTexts(keys []api.Node) bool {
	return !slices.ContainsFunc(keys, func(key api.Node) bool { return key.Kind != api.Text })
}

// number is what comes of a Float's bits, and the kind of the loss.
func number(bits uint64) (api.Node, int) {
	exact, why := flt.Exact(bits)
	switch {
	case why != api.OK:
		return api.Node{Kind: api.Null}, api.LossNan
	case exact.Exp < 0:
		return api.Node{Kind: api.Dec, Neg: exact.Neg, Digits: exact.Digits, Exp: exact.Exp}, api.LossFloat
	}
	// No Float has more than 309 digits ahead of the point, so that all whole ones have room in an Int.
	return api.Node{Kind: api.Int, Neg: exact.Neg, Digits: exact.Digits + strings.Repeat("0", exact.Exp)}, api.LossFloat
}

// digitsOf are two digits of each byte.
func digitsOf(b []byte) string {
	var digits []byte
	for _, x := range b {
		digits = append(digits, base16[x>>4], base16[x&15])
	}
	return string(digits)
}
