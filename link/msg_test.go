package link_test

import (
	"bytes"
	"math"
	"slices"
	"testing"

	"gantline/api"
	"gantline/link"
)

// some is a message with all of its numbers.
func some() api.Msg {
	return api.Msg{Kind: 1, Token: 7, Epoch: 2, Seq: 300, Ack: 4, Bits: 5, Credit: 6, Format: 2, Load: []byte("ab")}
}

// wrongNumbers are Epochs, Seqs, Acks and Credits that may not be.
func wrongNumbers() []int {
	return []int{-1, -2, -mostNumber, math.MinInt, math.MinInt + 1, mostNumber + 1, mostNumber + 2, math.MaxInt - 1, math.MaxInt}
}

// numberSetters turn one each of the numbers of a message that have one bound.
func numberSetters() []func(*api.Msg, int) {
	return []func(*api.Msg, int){
		func(m *api.Msg, n int) { m.Epoch = n },
		func(m *api.Msg, n int) { m.Seq = n },
		func(m *api.Msg, n int) { m.Ack = n },
		func(m *api.Msg, n int) { m.Credit = n },
	}
}

// packedAs are the numbers of some, with the i-th one another.
func packedAs(i int, n uint64) []byte {
	list := []uint64{1, 7, 2, 300, 4, 5, 6, 2}
	list[i] = n
	return framed(append(shorts(list...), "ab"...))
}

func expectPack(t *testing.T, m api.Msg, want []byte, wantWhy api.Errno) {
	t.Helper()
	if got, why := link.Pack(m); !bytes.Equal(got, want) || why != wantWhy || wantWhy != api.OK && got != nil {
		t.Fatalf("Pack(%+v) is %v, %v: not %v, %v", m, got, why, want, wantWhy)
	}
}

func expectUnpack(t *testing.T, b []byte, want api.Msg) {
	t.Helper()
	if got, why := link.Unpack(b); !sameMsg(got, want) || why != api.OK {
		t.Fatalf("Unpack(%v) is %+v, %v: not %+v", b, got, why, want)
	}
}

// expectNone wants b to be no datagram.
func expectNone(t *testing.T, b []byte, want api.Errno) {
	t.Helper()
	if m, why := link.Unpack(b); why != want || !sameMsg(m, api.Msg{}) || m.Load != nil {
		t.Fatalf("Unpack of %d bytes, %v, is %+v, %v: not %v", len(b), b[:min(len(b), 60)], m, why, want)
	}
}

// expectBoth wants a message to be packed by the document's words, and read again.
func expectBoth(t *testing.T, m api.Msg) {
	t.Helper()
	expectPack(t, m, packed(m), api.OK)
	expectUnpack(t, packed(m), m)
}

// P19.1: a datagram that is written by hand.
func TestPackByHand(t *testing.T) {
	b, why := link.Pack(some())
	if why != api.OK || len(b) != 19 || !bytes.Equal(b[:15], []byte{165, 90, 0, 11, 1, 7, 2, 130, 44, 4, 5, 6, 2, 97, 98}) {
		t.Fatalf("%v, %v", b, why)
	}
	expectUnpack(t, b, some())
	b, why = link.Pack(api.Msg{Kind: 2})
	if why != api.OK || len(b) != 16 || !bytes.Equal(b[:12], []byte{165, 90, 0, 8, 2, 0, 0, 0, 0, 0, 0, 0}) {
		t.Fatalf("%v, %v", b, why)
	}
	expectUnpack(t, b, api.Msg{Kind: 2})
}

// P19.1: messages of every Kind and every Format, with and without loads.
func TestPackKinds(t *testing.T) {
	for kind := 1; kind <= 7; kind++ {
		for format := range 3 {
			for _, load := range [][]byte{nil, {}, {0}, {128, 255}, []byte("gantline"), bytes.Repeat([]byte{165, 90}, 40)} {
				m := some()
				m.Kind, m.Format, m.Load = kind, format, load
				expectBoth(t, m)
				expectBoth(t, api.Msg{Kind: kind, Format: format, Load: load})
			}
		}
	}
}

// P19.1: Kinds and Formats that may not be.
func TestPackWrongKinds(t *testing.T) {
	for _, n := range []int{-1, -2, 8, 9, 127, 128, 255, 256, 257, 1 << 32, 1<<32 + 1, 1 << 62, math.MaxInt, math.MinInt, math.MinInt + 1} {
		m := some()
		m.Kind = n
		expectPack(t, m, nil, api.ErrArg)
		expectNone(t, packedAs(0, uint64(n)), api.ErrForm)
		m = some()
		m.Format = n
		expectPack(t, m, nil, api.ErrArg)
		expectNone(t, packedAs(7, uint64(n)), api.ErrForm)
	}
	m := some()
	m.Kind = 0
	expectPack(t, m, nil, api.ErrArg)
	expectNone(t, packedAs(0, 0), api.ErrForm)
	m = some()
	m.Format = 3
	expectPack(t, m, nil, api.ErrArg)
	expectNone(t, packedAs(7, 3), api.ErrForm)
	expectPack(t, api.Msg{}, nil, api.ErrArg)
}

// P19.1: Epoch, Seq, Ack and Credit at their bounds, and where a short number gets one byte more.
func TestPackNumbers(t *testing.T) {
	list := []int{0, 1, mostNumber - 1, mostNumber}
	for bits := 7; bits < 62; bits += 7 {
		list = append(list, 1<<bits-1, 1<<bits, 1<<bits+1)
	}
	for _, set := range numberSetters() {
		for _, n := range list {
			m := some()
			set(&m, n)
			expectBoth(t, m)
		}
	}
	m := some()
	for _, set := range numberSetters() {
		set(&m, mostNumber)
	}
	expectBoth(t, m)
}

// P19.1: Epoch, Seq, Ack and Credit out of their bounds, each alone; all numbers of 64 bits as Token and Bits.
func TestPackWrongNumbers(t *testing.T) {
	places := []int{2, 3, 4, 6}
	for i, set := range numberSetters() {
		for _, n := range wrongNumbers() {
			m := some()
			set(&m, n)
			expectPack(t, m, nil, api.ErrArg)
			expectNone(t, packedAs(places[i], uint64(n)), api.ErrForm)
		}
		for _, n := range []uint64{1<<63 - 1, 1 << 63, 1<<63 + 1, 1<<63 + 1<<62, math.MaxUint64} {
			expectNone(t, packedAs(places[i], n), api.ErrForm)
		}
	}
	for _, n := range []uint64{0, 1, 127, 128, 1 << 32, 1 << 62, 1<<62 + 1, 1<<63 - 1, 1 << 63, math.MaxUint64} {
		m := some()
		m.Token = n
		expectBoth(t, m)
		m = some()
		m.Bits = n
		expectBoth(t, m)
	}
}

// P19.1: the longest load that a frame can have with some numbers, and one byte more.
func TestPackLongest(t *testing.T) {
	far := api.Msg{Kind: 7, Token: math.MaxUint64, Epoch: mostNumber, Seq: mostNumber, Ack: mostNumber, Bits: math.MaxUint64, Credit: mostNumber, Format: 2}
	for _, m := range []api.Msg{{Kind: 1}, some(), {Kind: 1, Token: 128}, far} {
		m.Load = nil
		room := mostLoad - len(told(m))
		for n := max(0, room-3); n <= room; n++ {
			m.Load = bytes.Repeat([]byte{165, 90, 4, 0}, n/4+1)[:n]
			expectBoth(t, m)
		}
		if b, _ := link.Pack(m); len(b) != mostFrame {
			t.Fatalf("the longest datagram has %d bytes", len(b))
		}
		for _, n := range []int{room + 1, room + 2, mostLoad, mostLoad + 1, 4096, 1 << 16, 1<<16 + 1, 1 << 20} {
			m.Load = make([]byte, n)
			expectPack(t, m, nil, api.ErrMany)
		}
	}
	if room := mostLoad - len(told(far)); room != 1200-58 {
		t.Fatalf("numbers leave room for %d bytes", room)
	}
}

// R1: of a message with a wrong number and a load that is too long ErrArg is told.
func TestPackErrorNamedFirst(t *testing.T) {
	for i, set := range numberSetters() {
		m := some()
		set(&m, wrongNumbers()[i])
		m.Load = make([]byte, 2000)
		expectPack(t, m, nil, api.ErrArg)
	}
	for _, kind := range []int{0, 8} {
		expectPack(t, api.Msg{Kind: kind, Load: make([]byte, 2000)}, nil, api.ErrArg)
	}
	expectPack(t, api.Msg{Kind: 1, Format: 3, Load: make([]byte, 2000)}, nil, api.ErrArg)
}

// P19.1: bytes that are not just one whole frame.
func TestUnpackNoFrame(t *testing.T) {
	whole := packed(some())
	other := packed(api.Msg{Kind: 2})
	for n := range whole {
		expectNone(t, whole[:n], api.ErrSum)
		expectNone(t, whole[n+1:], api.ErrSum)
	}
	for _, more := range [][]byte{{0}, {165}, {165, 90}, {90}, {255, 255}, whole, other, other[:10], make([]byte, 2000)} {
		expectNone(t, slices.Concat(whole, more), api.ErrSum)
		expectNone(t, slices.Concat(more, whole), api.ErrSum)
		expectNone(t, slices.Concat(more, whole, more), api.ErrSum)
		expectNone(t, slices.Concat(whole, more, other), api.ErrSum)
	}
	for _, n := range []int{1, 7, 8, 9, 15, 16, mostFrame - 1, mostFrame, mostFrame + 1, 4096, 1 << 17} {
		expectNone(t, make([]byte, n), api.ErrSum)
		expectNone(t, bytes.Repeat([]byte{165}, n), api.ErrSum)
		expectNone(t, bytes.Repeat([]byte{165, 90}, n), api.ErrSum)
	}
	expectNone(t, bytes.Repeat([]byte{165, 90, 4, 176}, 1<<20), api.ErrSum)
	expectNone(t, nil, api.ErrSum)
	expectNone(t, []byte{}, api.ErrSum)
}

// P19.1: a frame within a frame's load: whole, with bytes ahead of it alone, and with bytes behind it alone.
func TestUnpackFrameWithinFrame(t *testing.T) {
	inner := packed(some())
	expectNone(t, framed(inner), api.ErrForm)
	m := api.Msg{Kind: 1, Load: inner}
	whole := packed(m)
	expectUnpack(t, whole, m)
	expectNone(t, whole[:len(whole)-1], api.ErrSum)
	expectNone(t, whole[1:], api.ErrSum)
	broken := slices.Clone(whole)
	broken[len(broken)-1] ^= 1
	// Behind the broken head the inner one is a frame, but not all there is.
	expectNone(t, broken, api.ErrSum)
}

// P19.1: a frame whose load would be too long is none, though its check sum fits.
func TestUnpackTooLong(t *testing.T) {
	m := some()
	for n := mostLoad - 9; n < mostLoad+20; n++ {
		m.Load = make([]byte, n)
		if len(packed(m)) <= mostFrame {
			expectUnpack(t, packed(m), m)
			continue
		}
		expectNone(t, packed(m), api.ErrSum)
	}
}

// P19.1: each turn of up to four neighbours of a datagram's bytes is found.
func TestUnpackTurned(t *testing.T) {
	c := chance(77)
	for _, m := range []api.Msg{some(), {Kind: 2, Token: 9}, {Kind: 1, Load: make([]byte, 300)}} {
		whole := packed(m)
		for at := range whole {
			for n := 1; n <= 4 && at+n <= len(whole); n++ {
				turned := slices.Clone(whole)
				turned[at] ^= byte(1 + c.below(255))
				for i := 1; i < n; i++ {
					turned[at+i] ^= byte(c.next())
				}
				expectNone(t, turned, api.ErrSum)
			}
		}
		for at := range len(whole) * 8 {
			turned := slices.Clone(whole)
			turned[at/8] ^= 1 << (at % 8)
			expectNone(t, turned, api.ErrSum)
		}
	}
}

// P19.1: frames whose loads do not begin with eight short numbers.
func TestUnpackNoNumbers(t *testing.T) {
	full := told(api.Msg{Kind: 1, Token: 1 << 20, Epoch: 128, Seq: 300, Ack: 1 << 14, Bits: math.MaxUint64, Credit: mostNumber, Format: 1})
	for n := range full {
		expectNone(t, framed(full[:n]), api.ErrForm)
	}
	expectUnpack(t, framed(full), api.Msg{Kind: 1, Token: 1 << 20, Epoch: 128, Seq: 300, Ack: 1 << 14, Bits: math.MaxUint64, Credit: mostNumber, Format: 1})
	wrong := [][]byte{
		{128}, {128, 0}, {128, 1}, {128, 128, 1}, {129},
		{255, 255, 255, 255, 255, 255, 255, 255, 255, 127},    // 70 bits
		{130, 128, 128, 128, 128, 128, 128, 128, 128, 0},      // 2^64
		{129, 128, 128, 128, 128, 128, 128, 128, 128, 128, 0}, // eleven bytes
		bytes.Repeat([]byte{255}, 20),
	}
	list := []uint64{1, 7, 2, 3, 4, 5, 6, 2}
	for i := range list {
		for _, bad := range wrong {
			load := slices.Concat(shorts(list[:i]...), bad, shorts(list[i+1:]...))
			if _, size := readShort(bad); size != 0 {
				t.Fatalf("%v is a short number", bad)
			}
			if _, why := read(framed(load)); why != api.OK {
				expectNone(t, framed(load), api.ErrForm)
			}
			expectNone(t, framed(slices.Concat(shorts(list[:i]...), bad)), api.ErrForm)
		}
	}
	expectNone(t, framed(nil), api.ErrForm)
}

// R1: of bytes that are no frame, and whose numbers are wrong, ErrSum is told.
func TestUnpackErrorNamedFirst(t *testing.T) {
	for _, b := range [][]byte{packedAs(0, 9), packedAs(7, 3), framed([]byte{128}), framed(nil)} {
		expectNone(t, b, api.ErrForm)
		expectNone(t, append(slices.Clone(b), 0), api.ErrSum)
		expectNone(t, b[:len(b)-1], api.ErrSum)
		b[len(b)-1] ^= 128
		expectNone(t, b, api.ErrSum)
	}
}

// P19.1: messages by chance, packed and read; and frames of any numbers and bytes.
func TestMsgsByChance(t *testing.T) {
	c := chance(1901)
	for range 20000 {
		expectBoth(t, c.msg(c.next()>>c.below(64)))
	}
	for range 40000 {
		var list []uint64
		for range 8 {
			list = append(list, c.next()>>(56+c.below(8)))
		}
		list[0], list[7] = list[0]%9, list[7]%4
		list[c.below(8)] = c.next() >> c.below(64)
		load := append(shorts(list...), c.bytes(c.below(4))...)
		if c.below(3) == 0 {
			load[c.below(len(load))] = byte(c.next())
		}
		want, why := read(framed(load))
		if why != api.OK {
			expectNone(t, framed(load), why)
			continue
		}
		expectUnpack(t, framed(load), want)
	}
}

// R4: what is handed in is not changed, and what is answered shares nothing with it, nor with another answer.
func TestMsgsApart(t *testing.T) {
	room := []byte("abcdefgh")
	m := some()
	m.Load = room[:2]
	b, _ := link.Pack(m)
	again, _ := link.Pack(m)
	overwrite(b)
	if string(room) != "abcdefgh" || !bytes.Equal(again, packed(some())) {
		t.Fatalf("%q, %v", room, again)
	}
	whole := append(packed(some()), "room"...)
	kept := slices.Clone(whole)
	one, _ := link.Unpack(whole[:len(whole)-4])
	two, _ := link.Unpack(whole[:len(whole)-4])
	overwrite(one.Load)
	if !bytes.Equal(whole, kept) || string(two.Load) != "ab" {
		t.Fatalf("%v, %q", whole, two.Load)
	}
	overwrite(whole)
	if string(two.Load) != "ab" {
		t.Fatalf("%q", two.Load)
	}
}

// overwrite writes over all bytes, and over the room behind them.
func overwrite(b []byte) {
	b = b[:cap(b)]
	for i := range b {
		b[i] = '#'
	}
}
