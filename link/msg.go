package link

import (
	"bytes"

	"gantline/api"
	"gantline/cur"
	"gantline/frame"
)

// The bounds of a datagram's numbers, of which those without a least one here begin with 0.
const (
	firstKind  = api.MsgData
	lastKind   = api.MsgClose
	lastFormat = api.Cbor // 0 is none
	mostNumber = 1 << 62
)

// numbers are those of an api.Msg, in the order in which a datagram tells them.
type numbers [8]uint64

// Pack is a datagram.
func Pack(m api.Msg) ([]byte, api.Errno) {
	if !mayBeTold(m) {
		return nil, api.ErrArg
	}
	var told []byte
	for _, n := range numbersOf(m) {
		told = cur.PutShort(told, n)
	}
	return frame.Encode(append(told, m.Load...))
}

// Unpack is what a datagram tells.
func Unpack(b []byte) (api.Msg, api.Errno) {
	told, ok := loadOf(b)
	if !ok {
		return api.Msg{}, api.ErrSum
	}
	c := cur.New(told)
	var read numbers
	for i := range read {
		read[i] = c.Short()
	}
	m := msgOf(read, c.Take(c.Left()))
	if c.Fault().Why != api.OK || !mayBeTold(m) {
		return api.Msg{}, api.ErrForm
	}
	return m, api.OK
}

// loadOf is the load of the frame that b is, if b is just one.
func loadOf(b []byte) ([]byte, bool) {
	if len(b) > api.MaxFrame {
		// No frame has so many bytes, and looking through all of them may take long.
		return nil, false
	}
	loads, _ := frame.Scan(b)
	if len(loads) == 0 {
		return nil, false
	}
	// Among other bytes, or other frames, it is found, too.
	whole, _ := frame.Encode(loads[0])
	return loads[0], bytes.Equal(whole, b)
}

// mayBeTold says whether a datagram may tell these numbers. Token and Bits may be any.
func mayBeTold(m api.Msg) bool {
	return isFrom(firstKind, m.Kind, lastKind) && isFrom(0, m.Format, lastFormat) &&
		isFrom(0, m.Epoch, mostNumber) && isFrom(0, m.Seq, mostNumber) &&
		isFrom(0, m.Ack, mostNumber) && isFrom(0, m.Credit, mostNumber)
}

// isFrom says whether a number is from one to another.
func isFrom(least, n, most int) bool { return least <= n && n <= most }

// numbersOf are the numbers of an api.Msg that may be told.
func numbersOf(m api.Msg) numbers {
	return numbers{
		uint64(m.Kind), m.Token, uint64(m.Epoch), uint64(m.Seq),
		uint64(m.Ack), m.Bits, uint64(m.Credit), uint64(m.Format),
	}
}

// msgOf is the api.Msg of numbers that were read. One that has no room in an int is below 0 then, and may not be told.
func msgOf(n numbers, load []byte) api.Msg {
	return api.Msg{
		Kind: int(n[0]), Token: n[1], Epoch: int(n[2]), Seq: int(n[3]),
		Ack: int(n[4]), Bits: n[5], Credit: int(n[6]), Format: int(n[7]), Load: load,
	}
}
