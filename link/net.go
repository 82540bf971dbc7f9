package link

import (
	"slices"

	"gantline/api"
)

// mostOnWay is how many datagrams a net has at most.
const mostOnWay = 256

// turnedBytes is how many bytes Turn turns: as many as by has.
const turnedBytes = 4

// datagram is one on its way. Nobody writes into its bytes: several may share them.
type datagram struct {
	bytes  []byte
	spoilt bool
}

// way is a net: the datagrams on their way, the kind of those that its end takes, and what that end does with one.
type way struct {
	row   [mostOnWay]datagram
	count int
	kind  int
	end   func(api.Msg) api.Errno
}

// put lets a datagram come into the net; where there is no room it is lost.
func (w *way) put(one datagram) {
	if w.count < mostOnWay {
		w.row[w.count] = one
		w.count++
	}
}

// takeOut lets the i-th datagram go from the net.
func (w *way) takeOut(i int) datagram {
	one := w.row[i]
	copy(w.row[i:], w.row[i+1:w.count])
	w.count--
	w.row[w.count] = datagram{}
	return one
}

// turned is a copy of a packed datagram's bytes, four of which are turned.
func turned(b []byte, at int, by uint32) []byte {
	copied := slices.Clone(b)
	at = modulo(at, len(b)-turnedBytes+1)
	for i := range turnedBytes {
		copied[at+i] ^= byte(by >> (8 * i))
	}
	return copied
}

// modulo is n modulo m, from 0 on also of numbers below 0.
func modulo(n, m int) int { return (n%m + m) % m }
