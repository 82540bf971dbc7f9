package crc_test

import (
	"bytes"
	"hash/crc32"
	"slices"
	"testing"

	"gantline/crc"
)

// sample is n bytes with no pattern that a check sum could hide behind, the same at each run.
func sample(n int) []byte {
	b := make([]byte, n)
	x := uint32(n)*2654435761 + 1
	for i := range b {
		x = x*1664525 + 1013904223
		b[i] = byte(x >> 24)
	}
	return b
}

// lengths are around the check sum's four bytes, and up to more than a frame's load.
func lengths() []int {
	return []int{0, 1, 2, 3, 4, 5, 7, 8, 9, 31, 64, 255, 256, 257, 1200, 1208, 4096}
}

// zeroSum is four bytes whose check sum is 0, as that of no bytes at all is.
func zeroSum() []byte { return []byte{0x9D, 0x0A, 0xD9, 0x6D} }

// joined is its lists, one behind the other, in a list of its own.
func joined(lists ...[]byte) []byte { return slices.Concat(lists...) }

// P1.1: known check sums.
func TestSumKnown(t *testing.T) {
	for _, c := range []struct {
		b    []byte
		want uint32
	}{
		{nil, 0},
		{[]byte{}, 0},
		{[]byte{0x00}, 0xD202EF8D},
		{[]byte{0xFF}, 0xFF000000},
		{[]byte{0x00, 0x00, 0x00, 0x00}, 0x2144DF1C},
		{[]byte{0xFF, 0xFF, 0xFF, 0xFF}, 0xFFFFFFFF},
		{zeroSum(), 0},
		{[]byte("a"), 0xE8B7BE43},
		{[]byte("123456789"), 0xCBF43926},
		{[]byte("The quick brown fox jumps over the lazy dog"), 0x414FA339},
	} {
		if got := crc.Sum(c.b); got != c.want {
			t.Errorf("Sum(% X) = %08X, want %08X", c.b, got, c.want)
		}
	}
}

// P1.1: each byte's value, and many lengths, against another's CRC-32.
func TestSumAgainstLibrary(t *testing.T) {
	for v := range 256 {
		b := []byte{byte(v)}
		if got, want := crc.Sum(b), crc32.ChecksumIEEE(b); got != want {
			t.Errorf("Sum(% X) = %08X, want %08X", b, got, want)
		}
	}
	for _, n := range lengths() {
		b := sample(n)
		if got, want := crc.Sum(b), crc32.ChecksumIEEE(b); got != want {
			t.Errorf("Sum of %d bytes = %08X, want %08X", n, got, want)
		}
	}
}

// P1.1: More goes on from any check sum, whichever bytes it is of.
func TestMoreFromAnySum(t *testing.T) {
	sums := []uint32{0, 1, 0x80000000, 0xEDB88320, 0xCBF43926, 0xFFFFFFFE, 0xFFFFFFFF}
	for _, sum := range sums {
		for _, n := range lengths() {
			b := sample(n)
			if got, want := crc.More(sum, b), crc32.Update(sum, crc32.IEEETable, b); got != want {
				t.Errorf("More(%08X, %d bytes) = %08X, want %08X", sum, n, got, want)
			}
		}
	}
}

// P1.1: with nothing behind, a check sum stays as it is.
func TestMoreOfNothing(t *testing.T) {
	for _, sum := range []uint32{0, 1, 0xCBF43926, 0xFFFFFFFF} {
		if got := crc.More(sum, nil); got != sum {
			t.Errorf("More(%08X, nil) = %08X", sum, got)
		}
		if got := crc.More(sum, []byte{}); got != sum {
			t.Errorf("More(%08X, none) = %08X", sum, got)
		}
	}
}

// P1.1: a sum that is 0 is that of no bytes, and of some bytes too: what comes behind counts the same.
func TestMoreBehindSumOfZero(t *testing.T) {
	for _, n := range lengths() {
		b := sample(n)
		more := crc.More(0, b)
		if want := crc.Sum(b); more != want {
			t.Errorf("More(0, %d bytes) = %08X, want %08X", n, more, want)
		}
		if want := crc.Sum(joined(zeroSum(), b)); more != want {
			t.Errorf("More(0, %d bytes) = %08X, want %08X behind bytes whose sum is 0", n, more, want)
		}
	}
}

// P1.3: two lists, one behind the other, wherever they are cut.
func TestMoreAtEachCut(t *testing.T) {
	for _, n := range []int{0, 1, 2, 5, 40, 300} {
		b := sample(n)
		want := crc.Sum(b)
		for cut := range n + 1 {
			if got := crc.More(crc.Sum(b[:cut]), b[cut:]); got != want {
				t.Errorf("%d bytes cut at %d: %08X, want %08X", n, cut, got, want)
			}
		}
	}
}

// P1.3: byte by byte.
func TestMoreByteByByte(t *testing.T) {
	b := sample(500)
	sum := crc.Sum(nil)
	for i := range b {
		sum = crc.More(sum, b[i:i+1])
		if want := crc.Sum(b[:i+1]); sum != want {
			t.Fatalf("behind byte %d: %08X, want %08X", i, sum, want)
		}
	}
}

// P1.2: b, and its check sum, the lowest byte first.
func TestSealKnown(t *testing.T) {
	for _, c := range []struct{ b, want []byte }{
		{nil, []byte{0, 0, 0, 0}},
		{[]byte{}, []byte{0, 0, 0, 0}},
		{[]byte("a"), []byte{'a', 0x43, 0xBE, 0xB7, 0xE8}},
		{[]byte("123456789"), joined([]byte("123456789"), []byte{0x26, 0x39, 0xF4, 0xCB})},
		{zeroSum(), joined(zeroSum(), []byte{0, 0, 0, 0})},
	} {
		if got := crc.Seal(c.b); !bytes.Equal(got, c.want) {
			t.Errorf("Seal(% X) = % X, want % X", c.b, got, c.want)
		}
	}
}

// P1.4: what was sealed is opened, once and sealed twice over.
func TestOpenSealed(t *testing.T) {
	for _, n := range lengths() {
		b := sample(n)
		once := crc.Seal(b)
		if len(once) != n+4 {
			t.Errorf("Seal of %d bytes has %d", n, len(once))
		}
		expectOpened(t, once, b)
		expectOpened(t, crc.Seal(once), once)
	}
	expectOpened(t, crc.Seal(nil), nil)
	expectOpened(t, crc.Seal(zeroSum()), zeroSum())
}

func expectOpened(t *testing.T, sealed, want []byte) {
	t.Helper()
	if got, ok := crc.Open(sealed); !ok || !bytes.Equal(got, want) {
		t.Errorf("Open(% X) = % X, %v, want % X", sealed, got, ok, want)
	}
}

func expectShut(t *testing.T, b []byte) {
	t.Helper()
	if got, ok := crc.Open(b); ok || len(got) != 0 {
		t.Errorf("Open(% X) = % X, %v, want nothing and false", b, got, ok)
	}
}

// P1.2: fewer than four bytes hold no check sum, whatever they are.
func TestOpenFewBytes(t *testing.T) {
	expectShut(t, nil)
	for n := range 4 {
		expectShut(t, make([]byte, n))
		expectShut(t, sample(n))
		expectShut(t, bytes.Repeat([]byte{0xFF}, n))
		expectShut(t, crc.Seal(nil)[:n])
	}
}

// P1.2: room behind short bytes is not looked at, though a check sum stands in it.
func TestOpenDoesNotReadBehind(t *testing.T) {
	sealed := crc.Seal([]byte("behind"))
	for n := range len(sealed) {
		expectShut(t, sealed[:n])
	}
}

// P1.2: four bytes are opened only where they are the check sum of none.
func TestOpenFourBytes(t *testing.T) {
	expectOpened(t, []byte{0, 0, 0, 0}, nil)
	for i := range 4 {
		for bit := range 8 {
			b := make([]byte, 4)
			b[i] = 1 << bit
			expectShut(t, b)
		}
	}
	expectShut(t, []byte{0xFF, 0xFF, 0xFF, 0xFF})
}

// P1.2: the check sum's four bytes in any other order are not it.
func TestOpenOtherOrders(t *testing.T) {
	load := []byte("123456789")
	sum := []byte{0x26, 0x39, 0xF4, 0xCB}
	opened := 0
	for a := range 4 {
		for b := range 4 {
			for c := range 4 {
				d := 6 - a - b - c
				if a == b || a == c || b == c {
					continue
				}
				sealed := joined(load, []byte{sum[a], sum[b], sum[c], sum[d]})
				if a == 0 && b == 1 && c == 2 {
					expectOpened(t, sealed, load)
					opened++
					continue
				}
				expectShut(t, sealed)
			}
		}
	}
	if opened != 1 {
		t.Errorf("the right order was tried %d times", opened)
	}
}

// P1.2: last four bytes that are not the check sum of the others.
func TestOpenWrongSums(t *testing.T) {
	for _, n := range []int{1, 4, 9, 1200} {
		b := sample(n)
		sum := crc.Sum(b)
		for _, wrong := range []uint32{^sum, sum + 1, sum - 1, sum ^ 0x80000000, crc.Sum(nil), crc.Sum(b[1:]), crc.More(sum, []byte{0})} {
			if wrong == sum {
				t.Fatalf("%08X is the check sum of %d bytes", wrong, n)
			}
			expectShut(t, joined(b, []byte{byte(wrong), byte(wrong >> 8), byte(wrong >> 16), byte(wrong >> 24)}))
		}
	}
}

// P1.2: a sealed list with a byte more or less at either end.
func TestOpenLongerOrShorter(t *testing.T) {
	sealed := crc.Seal(sample(40))
	expectShut(t, sealed[1:])
	expectShut(t, sealed[:len(sealed)-1])
	expectShut(t, joined([]byte{0}, sealed))
	expectShut(t, joined(sealed, []byte{0}))
}

// turned is b with by's bytes turned into it from a place on.
func turned(b []byte, at int, by []byte) []byte {
	out := bytes.Clone(b)
	for i, x := range by {
		out[at+i] ^= x
	}
	return out
}

// P1.5: one to four neighbouring bytes turned, at the beginning, in the middle, and across the last four.
func TestOpenTurnedBytes(t *testing.T) {
	values := []byte{0x01, 0x02, 0x10, 0x55, 0x80, 0xAA, 0xFE, 0xFF}
	for _, n := range []int{0, 1, 2, 3, 4, 5, 13} {
		sealed := crc.Seal(sample(n))
		for width := 1; width <= 4; width++ {
			by := make([]byte, width)
			for seed := range 1 << (3 * width) {
				for i := range by {
					by[i] = values[seed>>(3*i)&7]
				}
				for at := 0; at+width <= len(sealed); at++ {
					expectShut(t, turned(sealed, at, by))
				}
			}
		}
	}
}

// P1.5: each value by which one byte can be turned, at each place; and the outer two of four.
func TestOpenOneTurnedByte(t *testing.T) {
	sealed := crc.Seal(sample(30))
	for v := 1; v < 256; v++ {
		for at := range sealed {
			expectShut(t, turned(sealed, at, []byte{byte(v)}))
		}
		for at := 0; at+4 <= len(sealed); at++ {
			expectShut(t, turned(sealed, at, []byte{byte(v), 0, 0, byte(255 - v + 1)}))
		}
	}
}

// P1.5: a frame's greatest load, turned at its beginning, in its middle and across its last four bytes.
func TestOpenTurnedLongBytes(t *testing.T) {
	sealed := crc.Seal(sample(1200))
	for _, at := range []int{0, 1, 600, 1195, 1196, 1197, 1198, 1199, 1200} {
		for width := 1; width <= 4; width++ {
			for x := range 200 {
				by := sample(width + 4*x)[4*x:]
				by[0] |= 1
				expectShut(t, turned(sealed, at, by))
			}
		}
	}
}

// syndrome is by how much a turned list's last four bytes miss its check sum, against those of the sealed one.
func syndrome(b []byte) uint32 {
	end := len(b) - 4
	last := uint32(b[end]) | uint32(b[end+1])<<8 | uint32(b[end+2])<<16 | uint32(b[end+3])<<24
	return crc.Sum(b[:end]) ^ last
}

// P1.5, for all 2^32 ways to turn four neighbours at once: a check sum's miss is the exclusive or of those of the turned bits, so no way leaves none if the 32 bits' misses are independent.
func TestOpenEveryTurn(t *testing.T) {
	sealed := crc.Seal(sample(64))
	for at := 0; at+4 <= len(sealed); at++ {
		var lead [32]uint32
		for bit := range 32 {
			by := make([]byte, 4)
			by[bit/8] = 1 << (bit % 8)
			if !addIndependent(&lead, syndrome(turned(sealed, at, by))) {
				t.Fatalf("at %d bit %d hangs on those ahead of it", at, bit)
			}
		}
	}
}

// addIndependent takes x in by its highest bit, unless those taken in make it up.
func addIndependent(lead *[32]uint32, x uint32) bool {
	for i := 31; i >= 0; i-- {
		if x>>i&1 == 0 {
			continue
		}
		if lead[i] == 0 {
			lead[i] = x
			return true
		}
		x ^= lead[i]
	}
	return false
}

// withRoom is a list with room behind it, and the whole with that room.
func withRoom(b []byte) (short, whole []byte) {
	whole = joined(b, bytes.Repeat([]byte{0xA5}, 16))
	return whole[:len(b)], whole
}

// R4: what is handed in stays as it was, and so does the room behind it.
func TestArgumentsStay(t *testing.T) {
	for _, n := range lengths() {
		for _, b := range [][]byte{sample(n), crc.Seal(sample(n))} {
			short, whole := withRoom(b)
			before := bytes.Clone(whole)
			crc.Sum(short)
			crc.More(7, short)
			crc.Seal(short)
			crc.Open(short)
			if !bytes.Equal(whole, before) {
				t.Errorf("%d bytes, or the room behind them, were changed", len(b))
			}
		}
	}
}

// overwrite writes into a list up to its capacity.
func overwrite(b []byte) {
	b = b[:cap(b)]
	for i := range b {
		b[i] ^= 0xFF
	}
}

// R4: an answer is neither a piece of the argument nor of the room behind it, from either side.
func TestSealSharesNothing(t *testing.T) {
	for _, n := range lengths() {
		b := sample(n)
		want := crc.Seal(b)

		short, whole := withRoom(b)
		answer := crc.Seal(short)
		overwrite(whole)
		if !bytes.Equal(answer, want) {
			t.Errorf("%d bytes: writing into the argument changed the answer", n)
		}

		short, whole = withRoom(b)
		before := bytes.Clone(whole)
		first, second := crc.Seal(short), crc.Seal(short)
		overwrite(first)
		if !bytes.Equal(whole, before) || !bytes.Equal(second, want) {
			t.Errorf("%d bytes: writing into an answer changed something else", n)
		}
		if !bytes.Equal(crc.Seal(short), want) {
			t.Errorf("%d bytes: writing into an answer changed a later one", n)
		}
	}
}

func TestOpenSharesNothing(t *testing.T) {
	for _, n := range lengths() {
		want := sample(n)
		sealed := crc.Seal(want)

		short, whole := withRoom(sealed)
		answer, _ := crc.Open(short)
		overwrite(whole)
		if !bytes.Equal(answer, want) {
			t.Errorf("%d bytes: writing into the argument changed the answer", n)
		}

		short, whole = withRoom(sealed)
		before := bytes.Clone(whole)
		first, _ := crc.Open(short)
		second, _ := crc.Open(short)
		overwrite(first)
		if !bytes.Equal(whole, before) || !bytes.Equal(second, want) {
			t.Errorf("%d bytes: writing into an answer changed something else", n)
		}
		expectOpened(t, short, want)
	}
}

// R3: what is answered hangs on the arguments alone, whatever was asked ahead.
func TestSameAnswers(t *testing.T) {
	b := sample(100)
	sum, more, sealed := crc.Sum(b), crc.More(5, b), crc.Seal(b)
	crc.More(0xFFFFFFFF, sample(33))
	crc.Open(sample(10))
	crc.Seal(sample(77))
	if crc.Sum(b) != sum || crc.More(5, b) != more || !bytes.Equal(crc.Seal(b), sealed) {
		t.Error("the same calls had other answers")
	}
	expectOpened(t, sealed, b)
}
