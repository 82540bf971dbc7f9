package cread

import (
	"slices"

	"gantline/api"
	"gantline/flt"
	"gantline/nat"
	"gantline/tree"
	"gantline/utf"
)

// The major types, but for the last one: simple values and Floats.
const (
	majorWhole = iota
	majorBelow
	majorBytes
	majorText
	majorArray
	majorMap
	majorTag
)

// What the low bits of a first byte tell, beside numbers that they are themselves.
const (
	lowOne     = 24 // the argument is in the byte behind
	lowTwo     = 25
	lowFour    = 26
	lowEight   = 27
	lowEndless = 31
)

// What the low bits tell of the last major type.
const (
	lowFalse = 20
	lowTrue  = 21
	lowNull  = 22
)

// byteEnd ends what is without an end.
const byteEnd = 255

// leastSimple is the least Simple that has a byte of its own: lesser ones have room in the first one.
const leastSimple = 32

// wrong is what a panic carries from a wrong byte, however deep, to the end of the reading.
type wrong api.Fault

// reader reads items.
type reader struct {
	b     []byte
	at    int // the place of the next byte
	nodes int // how many have begun
}

// head is what an item begins with.
type head struct {
	at    int // the place of the first byte
	major byte
	low   byte
	n     uint64 // the argument
	cut   bool   // whether bytes of the argument are missing
}

// read reads an item, up to the first wrong byte.
func (r *reader) read() (n api.Node, fault api.Fault) {
	defer func() {
		if stop := recover(); stop != nil {
			// Any other panic is a fault of the program, and is not to be hidden as one of the bytes.
			fault = api.Fault(stop.(wrong))
		}
	}()
	return r.item(1), api.Fault{}
}

// item reads an item in a depth.
func (r *reader) item(depth int) api.Node {
	h := r.head()
	if !h.mayBegin() {
		panic(wrong{Why: api.ErrForm, At: h.at})
	}
	r.nodes++
	if r.nodes > api.MaxNodes || h.isRun() && h.n > api.MaxText {
		panic(wrong{Why: api.ErrMany, At: h.at})
	}
	if depth > api.MaxDepth {
		panic(wrong{Why: api.ErrDeep, At: h.at})
	}
	// Told last, since the byte that is missing is behind the first one.
	r.needs(!h.cut)
	return r.body(h, depth)
}

// head reads an item's first byte, and as much of its argument as there is.
func (r *reader) head() head {
	r.needs(r.at < len(r.b))
	first := r.b[r.at]
	h := head{at: r.at, major: first >> 5, low: first & 31}
	r.at++
	if h.low < lowOne {
		h.n = uint64(h.low)
		return h
	}
	width := h.width()
	if width > len(r.b)-r.at {
		h.cut = true
		return h
	}
	for _, x := range r.b[r.at : r.at+width] {
		h.n = h.n<<8 | uint64(x)
	}
	r.at += width
	return h
}

// width is how many bytes an argument has that does not stand in the first byte.
func (h head) width() int {
	switch h.low {
	case lowOne, lowTwo, lowFour, lowEight:
		return 1 << (h.low - lowOne)
	}
	return 0
}

// hasArgument tells whether there is a number.
func (h head) hasArgument() bool { return h.low <= lowEight }

// mayBegin tells whether an item may begin so.
func (h head) mayBegin() bool {
	return h.hasArgument() || h.low == lowEndless && h.major >= majorBytes && h.major <= majorMap
}

// isRun tells whether the argument counts bytes.
func (h head) isRun() bool { return h.major == majorBytes || h.major == majorText }

// needs stops the reading, if a byte is missing.
func (r *reader) needs(there bool) {
	if !there {
		panic(wrong{Why: api.ErrEnd, At: len(r.b)})
	}
}

// body reads what is behind an item's head.
func (r *reader) body(h head, depth int) api.Node {
	switch h.major {
	case majorWhole:
		return api.Node{Kind: api.Int, Digits: nat.FromWord(h.n)}
	case majorBelow:
		n, _ := below(nat.FromWord(h.n))
		return n
	case majorBytes:
		return api.Node{Kind: api.Bytes, Bytes: r.all(h)}
	case majorText:
		return api.Node{Kind: api.Text, Text: string(r.all(h))}
	case majorArray:
		return r.array(h, depth)
	case majorMap:
		return r.pairs(h, depth)
	case majorTag:
		return r.tag(h, depth)
	}
	return r.other(h)
}

// all are the bytes of a Bytes or a Text, of all its parts, in new memory.
func (r *reader) all(h head) []byte {
	if h.hasArgument() {
		return append([]byte(nil), r.run(h)...)
	}
	var all []byte
	for !r.ended() {
		part := r.head()
		if part.major != h.major || !part.hasArgument() {
			panic(wrong{Why: api.ErrForm, At: part.at})
		}
		r.needs(!part.cut)
		// Told ahead of the part's bytes, as of a Bytes or Text without parts: so many can not be there.
		if part.n > uint64(api.MaxText-len(all)) {
			panic(wrong{Why: api.ErrMany, At: h.at})
		}
		all = append(all, r.run(part)...)
	}
	return all
}

// run are the bytes that a head's argument counts: at most MaxText.
func (r *reader) run(h head) []byte {
	end := r.at + int(h.n)
	here := r.b[r.at:min(end, len(r.b))]
	if h.major == majorText {
		r.checkText(here, end)
	}
	r.needs(end <= len(r.b))
	r.at = end
	return here
}

// checkText looks for a wrong byte in those that are there of a text up to a place.
func (r *reader) checkText(here []byte, end int) {
	fault := utf.Check(here)
	at := r.at + fault.At
	// Where all that is there begins a text, a byte that is missing is no wrong one.
	if fault.Why != api.OK && (at < len(r.b) || end == at) {
		panic(wrong{Why: api.ErrUtf, At: at})
	}
}

// ended takes the byte that ends what is without an end, if it is the next one.
func (r *reader) ended() bool {
	r.needs(r.at < len(r.b))
	if r.b[r.at] != byteEnd {
		return false
	}
	r.at++
	return true
}

// goesOn tells whether there is more of an Array or a Map that has so many items or pairs already.
func (r *reader) goesOn(h head, done uint64) bool {
	if h.hasArgument() {
		return done < h.n
	}
	return !r.ended()
}

// array reads an Array's items.
func (r *reader) array(h head, depth int) api.Node {
	n := api.Node{Kind: api.Array}
	for done := uint64(0); r.goesOn(h, done); done++ {
		n.Kids = append(n.Kids, r.item(depth+1))
	}
	return n
}

// pairs reads a Map's items.
func (r *reader) pairs(h head, depth int) api.Node {
	n := api.Node{Kind: api.Map}
	for done := uint64(0); r.goesOn(h, done); done++ {
		at := r.at
		key := r.item(depth + 1)
		if slices.ContainsFunc(n.Keys, func(ahead api.Node) bool { return tree.Same(ahead, key) }) {
			panic(wrong{Why: api.ErrTwice, At: at})
		}
		n.Keys = append(n.Keys, key)
		n.Kids = append(n.Kids, r.item(depth+1))
	}
	return n
}

// tag reads a tag's item.
func (r *reader) tag(h head, depth int) api.Node {
	n, why := tagged(h.n, r.item(depth+1))
	if why != api.OK {
		panic(wrong{Why: api.ErrNum, At: h.at})
	}
	return n
}

// other reads what is of the last major type.
func (r *reader) other(h head) api.Node {
	switch h.low {
	case lowFalse:
		return api.Node{Kind: api.Bool}
	case lowTrue:
		return api.Node{Kind: api.Bool, N: 1}
	case lowNull:
		return api.Node{Kind: api.Null}
	case lowTwo, lowFour, lowEight:
		bits, _ := flt.Widen(h.n, h.width())
		return api.Node{Kind: api.Float, N: bits}
	case lowOne:
		if h.n < leastSimple {
			panic(wrong{Why: api.ErrForm, At: h.at + 1})
		}
	}
	return api.Node{Kind: api.Simple, N: h.n}
}
