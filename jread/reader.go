package jread

import (
	"slices"

	"gantline/api"
	"gantline/dec"
)

// Layer 9's kinds of tokens.
const (
	signOpenMap = 1 + iota
	signCloseMap
	signOpenArray
	signCloseArray
	signColon
	signComma
	tokenString
	tokenNumber
	tokenTrue
	tokenFalse
	tokenNull
)

// reader is what was read of a text. What may stand next is told by the method that next is: open is a stack, so that however deep a text goes, no call goes deeper.
type reader struct {
	free  bool // whether the bounds of this layer are left aside
	next  func(token api.Token) api.Errno
	open  []api.Node // the Arrays and Maps that have not ended, the innermost last, with what they have so far
	nodes int        // how many have begun
	root  api.Node
	ended bool
}

// newReader is a reader that nothing was read by.
func newReader() *reader {
	r := &reader{}
	r.next = r.value
	return r
}

// value reads the token that a value begins with.
func (r *reader) value(token api.Token) api.Errno {
	if !beginsValue(token.Kind) {
		return api.ErrForm
	}
	node, own := nodeOf(token)
	if why := r.begin(own); why != api.OK {
		return why
	}
	switch node.Kind {
	case api.Array:
		r.open = append(r.open, node)
		r.next = r.firstValue
	case api.Map:
		r.open = append(r.open, node)
		r.next = r.firstKey
	default:
		r.put(node)
	}
	return api.OK
}

// firstValue reads the token behind a [.
func (r *reader) firstValue(token api.Token) api.Errno {
	if token.Kind == signCloseArray {
		return r.end()
	}
	return r.value(token)
}

// firstKey reads the token behind a {.
func (r *reader) firstKey(token api.Token) api.Errno {
	if token.Kind == signCloseMap {
		return r.end()
	}
	return r.key(token)
}

// key reads a key.
func (r *reader) key(token api.Token) api.Errno {
	if token.Kind != tokenString {
		return api.ErrForm
	}
	top := r.innermost()
	if why := r.begin(twice(top.Keys, token.Text)); why != api.OK {
		return why
	}
	top.Keys = append(top.Keys, textOf(token))
	r.next = r.colon
	return api.OK
}

// colon reads the sign behind a key.
func (r *reader) colon(token api.Token) api.Errno {
	if token.Kind != signColon {
		return api.ErrForm
	}
	r.next = r.value
	return api.OK
}

// behindKid reads the token behind a value in an Array.
func (r *reader) behindKid(token api.Token) api.Errno {
	switch token.Kind {
	case signComma:
		r.next = r.value
		return api.OK
	case signCloseArray:
		return r.end()
	}
	return api.ErrForm
}

// behindMember reads the token behind a value in a Map.
func (r *reader) behindMember(token api.Token) api.Errno {
	switch token.Kind {
	case signComma:
		r.next = r.key
		return api.OK
	case signCloseMap:
		return r.end()
	}
	return api.ErrForm
}

// nothing reads a token behind all.
func (r *reader) nothing(api.Token) api.Errno { return api.ErrMore }

// begin counts one more node, and is the first bound that it breaks; own is that which is told by its token.
func (r *reader) begin(own api.Errno) api.Errno {
	r.nodes++
	switch {
	case r.free:
		return api.OK
	case r.nodes > api.MaxNodes:
		return api.ErrMany
	case len(r.open) >= api.MaxDepth:
		return api.ErrDeep
	}
	return own
}

// end takes the innermost of what is open as whole.
func (r *reader) end() api.Errno {
	node := *r.innermost()
	r.open = r.open[:len(r.open)-1]
	r.put(node)
	return api.OK
}

// put puts a whole value into the innermost of what is open.
func (r *reader) put(node api.Node) {
	if len(r.open) == 0 {
		r.root, r.ended, r.next = node, true, r.nothing
		return
	}
	top := r.innermost()
	top.Kids = append(top.Kids, node)
	r.next = r.behindKid
	if top.Kind == api.Map {
		r.next = r.behindMember
	}
}

// innermost is the last of what is open.
func (r *reader) innermost() *api.Node { return &r.open[len(r.open)-1] }

// beginsValue tells whether a value begins with a token of a kind.
func beginsValue(kind int) bool {
	switch kind {
	case signCloseMap, signCloseArray, signColon, signComma:
		return false
	}
	return true
}

// nodeOf is the node that a token begins; ErrNum, if it is a number that layer 6 refuses.
func nodeOf(token api.Token) (api.Node, api.Errno) {
	switch token.Kind {
	case signOpenMap:
		return api.Node{Kind: api.Map}, api.OK
	case signOpenArray:
		return api.Node{Kind: api.Array}, api.OK
	case tokenString:
		return textOf(token), api.OK
	case tokenNumber:
		return numberOf(token)
	case tokenTrue:
		return api.Node{Kind: api.Bool, N: 1}, api.OK
	case tokenFalse:
		return api.Node{Kind: api.Bool}, api.OK
	}
	return api.Node{Kind: api.Null}, api.OK
}

// textOf is a string's node.
func textOf(token api.Token) api.Node { return api.Node{Kind: api.Text, Text: token.Text} }

// numberOf is a number's node.
func numberOf(token api.Token) (api.Node, api.Errno) {
	n, fault := dec.Parse(token.Text)
	if fault.Why != api.OK {
		return api.Node{}, api.ErrNum
	}
	if digits, ok := dec.Whole(n); ok {
		return api.Node{Kind: api.Int, Neg: n.Neg, Digits: digits}, api.OK
	}
	return api.Node{Kind: api.Dec, Neg: n.Neg, Digits: n.Digits, Exp: n.Exp}, api.OK
}

// twice is ErrTwice, if one of the keys is this text.
func twice(keys []api.Node, text string) api.Errno {
	if slices.ContainsFunc(keys, func(key api.Node) bool { return key.Text == text }) {
		return api.ErrTwice
	}
	return api.OK
}
