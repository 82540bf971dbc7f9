package conv

import (
	"strings"

	"gantline/api"
	"gantline/tree"
)

// giveBack gives back what a loss took, within a tree that is written into.
func giveBack(n *api.Node, loss api.Loss) api.Errno {
	there := find(n, loss.Path)
	if there == nil {
		return api.ErrPath
	}
	taken, ok := takenOf(*there, loss)
	if !ok {
		return api.ErrArg
	}
	*there = taken
	return api.OK
}

// find is where a path leads within a node; nil, if it leads nowhere. Layer 8's At refuses more than MaxNodes nodes, which there may be between two losses.
func find(n *api.Node, path []int) *api.Node {
	for _, step := range path {
		list, i := n.Kids, step
		if n.Kind == api.Map {
			i = step / 2
			if step%2 == 0 {
				list = n.Keys
			}
		}
		// Held against step, since half of -1 is 0, a place.
		if step < 0 || i >= len(list) {
			return nil
		}
		n = &list[i]
	}
	return n
}

// takenOf is what a loss took, by the node that came of it; false, if that one can not have come of it.
func takenOf(n api.Node, loss api.Loss) (api.Node, bool) {
	switch loss.Kind {
	case api.LossFloat, api.LossNan:
		told, kind := number(loss.N)
		return api.Node{Kind: api.Float, N: loss.N}, kind == loss.Kind && tree.Same(told, n)
	case api.LossBytes:
		b, ok := bytesOf(n.Text)
		return api.Node{Kind: api.Bytes, Bytes: b}, ok && n.Kind == api.Text
	case api.LossTag:
		return api.Node{Kind: api.Tag, N: loss.N, Kids: []api.Node{n}}, true
	case api.LossMap:
		return mapOf(n)
	case api.LossSimple:
		return api.Node{Kind: api.Simple, N: loss.N}, n.Kind == api.Null
	}
	return api.Node{}, false
}

// bytesOf are the bytes of which digits tell two each; false, if they are no such digits.
func bytesOf(digits string) ([]byte, bool) {
	if len(digits)%2 != 0 {
		return nil, false
	}
	var b []byte
	for i := 0; i < len(digits); i += 2 {
		high, low := strings.IndexByte(base16, digits[i]), strings.IndexByte(base16, digits[i+1])
		if high < 0 || low < 0 {
			return nil, false
		}
		b = append(b, byte(high<<4|low))
	}
	return b, true
}

// mapOf is the Map of an Array's pairs; false, if it is none of such.
func mapOf(n api.Node) (api.Node, bool) {
	if n.Kind != api.Array {
		return api.Node{}, false
	}
	pairs := api.Node{Kind: api.Map}
	for _, pair := range n.Kids {
		if pair.Kind != api.Array || len(pair.Kids) != 2 {
			return api.Node{}, false
		}
		pairs.Keys = append(pairs.Keys, pair.Kids[0])
		pairs.Kids = append(pairs.Kids, pair.Kids[1])
	}
	return pairs, true
}
