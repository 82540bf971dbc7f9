package utf_test

import (
	"bytes"
	"math"
	"slices"
	"testing"

	"gantline/api"
	"gantline/utf"
)

// The least and the greatest number of each count of bytes, as the document tells them.
var (
	least    = [5]int{0, 0, 0x80, 0x800, 0x10000}
	greatest = [5]int{0, 0x7F, 0x7FF, 0xFFFF, 0x10FFFF}
)

func isCharacter(n int) bool {
	return n >= 0 && n <= 0x10FFFF && (n < 0xD800 || n > 0xDFFF)
}

// sizeOf is how many bytes a character has.
func sizeOf(r rune) int {
	size := 1
	for int(r) > greatest[size] {
		size++
	}
	return size
}

// told is a number's bits in so many bytes, be they as many as it has or not.
func told(n, size int) []byte {
	if size == 1 {
		return []byte{byte(n)}
	}
	first := [5]int{0, 0, 0xC0, 0xE0, 0xF0}[size]
	b := []byte{byte(first | n>>(6*(size-1)))}
	for i := size - 2; i >= 0; i-- {
		b = append(b, byte(0x80|n>>(6*i)&0x3F))
	}
	return b
}

// bytesOf is the bytes of characters, one behind the other, made without the package.
func bytesOf(runes ...rune) []byte {
	var b []byte
	for _, r := range runes {
		b = append(b, told(int(r), sizeOf(r))...)
	}
	return b
}

func join(parts ...[]byte) []byte { return slices.Concat(parts...) }

// modelBegins says whether b begins a character or is one, and which one: by the numbers that its bits leave.
func modelBegins(b []byte) (begins, whole bool, r rune) {
	size, low := 0, 0
	switch first := int(b[0]); {
	case first < 0x80:
		size, low = 1, first
	case first>>5 == 6:
		size, low = 2, first&0x1F
	case first>>4 == 14:
		size, low = 3, first&0xF
	case first>>3 == 30:
		size, low = 4, first&7
	}
	if len(b) > size {
		return false, false, 0
	}
	for _, x := range b[1:] {
		if x>>6 != 2 {
			return false, false, 0
		}
		low = low<<6 | int(x&0x3F)
	}
	open := 6 * (size - len(b))
	from, to := max(low<<open, least[size]), min(low<<open|(1<<open-1), greatest[size])
	if from > to || from >= 0xD800 && to <= 0xDFFF {
		return false, false, 0
	}
	return true, open == 0, rune(from)
}

// model is b's characters up to its fault, and the fault.
func model(b []byte) ([]rune, api.Fault) {
	var runes []rune
	from := 0
	for at := range b {
		begins, whole, r := modelBegins(b[from : at+1])
		if !begins {
			return runes, api.Fault{Why: api.ErrUtf, At: at}
		}
		if whole {
			runes = append(runes, r)
			from = at + 1
		}
	}
	if from < len(b) {
		return runes, api.Fault{Why: api.ErrUtf, At: len(b)}
	}
	return runes, api.Fault{}
}

// modelNext is the character that b begins with.
func modelNext(b []byte) (rune, int) {
	for n := 1; n <= min(4, len(b)); n++ {
		if _, whole, r := modelBegins(b[:n]); whole {
			return r, n
		}
	}
	return 0, 0
}

// expect holds all that is told of b against the characters and the fault that it has, and against the character that it begins with.
func expect(t *testing.T, b []byte, runes []rune, fault api.Fault) {
	t.Helper()
	if fault.Why != 0 {
		runes = nil
	}
	if got := utf.Check(b); got != fault {
		t.Fatalf("Check(% X) is %v, not %v", b, got, fault)
	}
	if got, why := utf.Runes(b); !slices.Equal(got, runes) || why != fault {
		t.Fatalf("Runes(% X) is %X, %v, not %X, %v", b, got, why, runes, fault)
	}
	if got := utf.Count(b); got != len(runes) {
		t.Fatalf("Count(% X) is %d, not %d", b, got, len(runes))
	}
	r, n := modelNext(b)
	if got, size := utf.Next(b); got != r || size != n {
		t.Fatalf("Next(% X) is %X, %d, not %X, %d", b, got, size, r, n)
	}
}

// expectModel is expect by the model.
func expectModel(t *testing.T, b []byte) {
	t.Helper()
	runes, fault := model(b)
	expect(t, b, runes, fault)
}

func expectText(t *testing.T, b []byte, runes ...rune) {
	t.Helper()
	expect(t, b, runes, api.Fault{})
}

func expectFault(t *testing.T, b []byte, at int) {
	t.Helper()
	expect(t, b, nil, api.Fault{Why: api.ErrUtf, At: at})
}

func expectNext(t *testing.T, b []byte, r rune, n int) {
	t.Helper()
	if got, size := utf.Next(b); got != r || size != n {
		t.Fatalf("Next(% X) is %X, %d, not %X, %d", b, got, size, r, n)
	}
}

func expectPut(t *testing.T, b []byte, r rune, want []byte) {
	t.Helper()
	if got, err := utf.Put(b, r); !bytes.Equal(got, want) || err != api.OK {
		t.Fatalf("Put(% X, %X) is % X, %v, not % X", b, r, got, err, want)
	}
}

// edges are the characters at the edges that the document names.
var edges = []rune{0, 'a', 0x7F, 0x80, 0xE9, 0x7FF, 0x800, 0xD7FF, 0xE000, 0xFFFC, 0xFFFD, 0xFFFE, 0xFFFF, 0x10000, 0x10FFFF}

// aheads are texts of characters of each count of bytes, to stand ahead of others.
var aheads = [][]byte{nil, bytesOf('a'), bytesOf(0xE9), bytesOf(0x20AC), bytesOf(0xFFFD), bytesOf(0x1F600), bytesOf('a', 0xE9, 0xFFFD, 0x20AC, 0x1F600, 'z')}

// chance gives the same numbers at each run.
type chance uint64

func (c *chance) below(n int) int {
	x := uint64(*c)
	x ^= x << 13
	x ^= x >> 7
	x ^= x << 17
	*c = chance(x)
	return int(x>>11) % n
}

// character is one, of each count of bytes as often.
func (c *chance) character() rune {
	for {
		size := c.below(4) + 1
		if n := least[size] + c.below(greatest[size]-least[size]+1); isCharacter(n) {
			return rune(n)
		}
	}
}

func (c *chance) characters(n int) []rune {
	runes := make([]rune, n)
	for i := range runes {
		runes[i] = c.character()
	}
	return runes
}

// mess is mostly a text, with bytes turned, left out and put in.
func (c *chance) mess() []byte {
	b := bytesOf(c.characters(c.below(12))...)
	for range c.below(3) {
		at := c.below(len(b) + 1)
		switch c.below(4) {
		case 0:
			b = b[:at]
		case 1:
			b = slices.Insert(b, at, byte(c.below(256)))
		default:
			if at < len(b) {
				b[at] ^= 1 << c.below(8)
			}
		}
	}
	return b
}

// P4.1, P4.2: bytes of characters as they are known, the document's example among them.
func TestKnownCharacters(t *testing.T) {
	for _, k := range []struct {
		r rune
		b []byte
	}{
		{0, []byte{0}},
		{'A', []byte{0x41}},
		{0x7F, []byte{0x7F}},
		{0x80, []byte{0xC2, 0x80}},
		{0xE9, []byte{0xC3, 0xA9}},
		{0x7FF, []byte{0xDF, 0xBF}},
		{0x800, []byte{0xE0, 0xA0, 0x80}},
		{0x20AC, []byte{0xE2, 0x82, 0xAC}},
		{0xD7FF, []byte{0xED, 0x9F, 0xBF}},
		{0xE000, []byte{0xEE, 0x80, 0x80}},
		{0xFEFF, []byte{0xEF, 0xBB, 0xBF}},
		{0xFFFD, []byte{0xEF, 0xBF, 0xBD}},
		{0xFFFF, []byte{0xEF, 0xBF, 0xBF}},
		{0x10000, []byte{0xF0, 0x90, 0x80, 0x80}},
		{0x1F600, []byte{0xF0, 0x9F, 0x98, 0x80}},
		{0x10FFFF, []byte{0xF4, 0x8F, 0xBF, 0xBF}},
	} {
		expectText(t, k.b, k.r)
		expectPut(t, nil, k.r, k.b)
		expectNext(t, k.b, k.r, len(k.b))
		if !bytes.Equal(bytesOf(k.r), k.b) {
			t.Fatalf("the model's bytes of %X are % X", k.r, bytesOf(k.r))
		}
	}
}

// P4.1, P4.2: no bytes at all are a text without characters, which does not begin with one.
func TestNoBytes(t *testing.T) {
	for _, b := range [][]byte{nil, {}, bytesOf('a')[:0]} {
		expectText(t, b)
		expectNext(t, b, 0, 0)
		expectPut(t, b, 'a', []byte{'a'})
	}
}

// P4.1 and the document's example: where known faults are, behind characters of each length and ahead of anything.
func TestKnownFaults(t *testing.T) {
	for _, k := range []struct {
		b  []byte
		at int
	}{
		{[]byte{0x80}, 0},
		{[]byte{0xBF}, 0},
		{[]byte{0xC0, 0x80}, 0},
		{[]byte{0xC1, 0xBF}, 0},
		{[]byte{0xF5, 0x80, 0x80, 0x80}, 0},
		{[]byte{0xF8, 0x88, 0x80, 0x80, 0x80}, 0},
		{[]byte{0xFE}, 0},
		{[]byte{0xFF}, 0},
		{[]byte{0xC2, 0x41}, 1},
		{[]byte{0xC2, 0xC2, 0x80}, 1},
		{[]byte{0xDF, 0x7F}, 1},
		{[]byte{0xE0, 0x80}, 1},
		{[]byte{0xE0, 0x9F, 0xBF}, 1},
		{[]byte{0xE0, 0xA0, 0x7F}, 2},
		{[]byte{0xE0, 0xA0, 0xC0}, 2},
		{[]byte{0xE1, 0x7F, 0x80}, 1},
		{[]byte{0xE1, 0xC0, 0x80}, 1},
		{[]byte{0xED, 0xA0, 0x80}, 1},
		{[]byte{0xED, 0xBF, 0xBF}, 1},
		{[]byte{0xED, 0x9F, 0x41}, 2},
		{[]byte{0xEF, 0xBF, 0x41}, 2},
		{[]byte{0xEF, 0x41, 0xBD}, 1},
		{[]byte{0xF0, 0x80, 0x80, 0x80}, 1},
		{[]byte{0xF0, 0x8F, 0xBF, 0xBF}, 1},
		{[]byte{0xF0, 0x90, 0x80, 0x41}, 3},
		{[]byte{0xF1, 0x80, 0xFF, 0x80}, 2},
		{[]byte{0xF3, 0xBF, 0xBF, 0xC0}, 3},
		{[]byte{0xF4, 0x90, 0x80, 0x80}, 1},
		{[]byte{0xF4, 0x8F, 0xC0, 0x80}, 2},
	} {
		for _, ahead := range aheads {
			b := join(ahead, k.b)
			expectFault(t, b, len(ahead)+k.at)
			expectFault(t, join(b, []byte("ab")), len(ahead)+k.at)
			expectFault(t, join(b, []byte{0x80, 0xFF}), len(ahead)+k.at)
		}
		expectNext(t, k.b, 0, 0)
	}
}

// P4.1: bytes with which no character begins are a fault where one should begin.
func TestWrongFirstBytes(t *testing.T) {
	for x := 0x80; x <= 0xFF; x++ {
		if x >= 0xC2 && x <= 0xF4 {
			continue
		}
		for _, ahead := range aheads {
			expectFault(t, join(ahead, []byte{byte(x)}), len(ahead))
			expectFault(t, join(ahead, []byte{byte(x), 0x80, 0x80, 0x80}), len(ahead))
		}
	}
}

// P4.1: a text that is cut within a character begins one: the fault is behind all bytes; with a byte of no character there, at that byte.
func TestCutWithin(t *testing.T) {
	for _, r := range edges {
		whole := bytesOf(r)
		for _, ahead := range aheads {
			for n := 1; n < len(whole); n++ {
				b := join(ahead, whole[:n])
				expectFault(t, b, len(b))
				for _, x := range []byte{0, 'a', 0x7F, 0xC0, 0xC3, 0xE2, 0xF0, 0xFF} {
					expectFault(t, join(b, []byte{x}), len(b))
					expectFault(t, join(b, []byte{x, 0x80, 0x80}), len(b))
				}
			}
		}
		for n := range len(whole) {
			expectNext(t, whole[:n], 0, 0)
		}
	}
}

// P4.1, P4.2: characters told in more bytes than they have are none, and no number from D800 to DFFF or beyond 10FFFF is told in bytes.
func TestToldWrong(t *testing.T) {
	for size := 2; size <= 4; size++ {
		for n := 0; n < least[size]; n++ {
			expectModel(t, told(n, size))
			expectNext(t, told(n, size), 0, 0)
		}
	}
	for n := 0xD800; n <= 0xDFFF; n++ {
		expectFault(t, told(n, 3), 1)
	}
	for n := 0x110000; n < 0x200000; n += 0x3F1 {
		b := told(n, 4)
		at := 1
		if b[0] > 0xF4 {
			at = 0
		}
		expectFault(t, b, at)
	}
}

// P4.1, P4.2: every character, alone, and the bytes that Put puts.
func TestEveryCharacter(t *testing.T) {
	for n := 0; n <= 0x10FFFF; n++ {
		if !isCharacter(n) {
			continue
		}
		r := rune(n)
		b := bytesOf(r)
		if f := utf.Check(b); f != (api.Fault{}) {
			t.Fatal(b, f)
		}
		expectNext(t, b, r, len(b))
		expectPut(t, nil, r, b)
		if runes, f := utf.Runes(b); len(runes) != 1 || runes[0] != r || f.Why != 0 || utf.Count(b) != 1 {
			t.Fatal(b, runes, f)
		}
	}
}

// P4.1: all short lists of the bytes that matter, against the model.
func TestShortLists(t *testing.T) {
	matter := []byte{0, 0x7F, 0x80, 0x8F, 0x90, 0x9F, 0xA0, 0xBD, 0xBF, 0xC0, 0xC1, 0xC2, 0xDF, 0xE0, 0xE1, 0xEC, 0xED, 0xEE, 0xEF, 0xF0, 0xF1, 0xF3, 0xF4, 0xF5, 0xFF}
	lists := [][]byte{nil}
	for range 4 {
		var longer [][]byte
		for _, b := range lists {
			for _, x := range matter {
				longer = append(longer, append(slices.Clone(b), x))
			}
		}
		for _, b := range longer {
			expectModel(t, b)
		}
		lists = longer
	}
}

// P4.1: all lists of two bytes, alone and with bytes behind that may go on with a character.
func TestAllPairs(t *testing.T) {
	for n := range 0x10000 {
		b := []byte{byte(n >> 8), byte(n)}
		expectModel(t, b)
		expectModel(t, append(b, 0x80, 0xBF))
	}
}

// P4.1, P4.2: texts with faults anywhere, against the model.
func TestMess(t *testing.T) {
	c := chance(4)
	faults := 0
	for range 50000 {
		b := c.mess()
		expectModel(t, b)
		if utf.Check(b).Why != 0 {
			faults++
		}
	}
	if faults < 5000 || faults > 45000 {
		t.Fatal("the lists are too much alike:", faults)
	}
}

// P4.1: the fault behind a long text, and that text's characters.
func TestLongTexts(t *testing.T) {
	c := chance(40)
	runes := c.characters(100000)
	b := bytesOf(runes...)
	expectText(t, b, runes...)
	expectFault(t, join(b, []byte{0xE0, 0x80}), len(b)+1)
	expectFault(t, join(b, []byte{0xF0, 0x9F}), len(b)+2)
	for _, r := range edges {
		many := slices.Repeat([]rune{r}, 5000)
		expectText(t, bytesOf(many...), many...)
		expectFault(t, join(bytesOf(many...), []byte{0xFF}), 5000*sizeOf(r))
	}
}

// P4.2: what is no character is not put, whatever is ahead.
func TestPutWrong(t *testing.T) {
	wrong := []rune{-1, -2, -'a', math.MinInt32, 0x110000, 0x110001, 0x200000, math.MaxInt32}
	for r := rune(0xD800); r <= 0xDFFF; r++ {
		wrong = append(wrong, r)
	}
	for _, r := range wrong {
		for _, b := range append(aheads, []byte{0xFF}) {
			if got, err := utf.Put(b, r); got != nil || err != api.ErrArg {
				t.Fatalf("Put(% X, %X) is % X, %v", b, r, got, err)
			}
		}
	}
}

// P4.2: Put puts behind any bytes, be they a text or not.
func TestPutBehind(t *testing.T) {
	for _, b := range append(aheads, []byte{0xFF}, []byte{0xC3}, []byte{0xE0, 0x80}) {
		for _, r := range edges {
			expectPut(t, b, r, join(b, bytesOf(r)))
		}
	}
}

// P4.2: Next tells the first character alone, whatever is behind it.
func TestNextAhead(t *testing.T) {
	for _, r := range edges {
		for _, behind := range [][]byte{nil, []byte("a"), {0x80}, {0xFF, 0xFF}, {0xE0, 0x80}, {0xF0, 0x9F}, bytesOf(0xFFFD, 0xE9), bytes.Repeat([]byte{0xBF}, 9)} {
			expectNext(t, join(bytesOf(r), behind), r, sizeOf(r))
		}
	}
}

// P4.2: going from character to character by Next gives what Runes does, up to the fault.
func TestNextByNext(t *testing.T) {
	c := chance(41)
	for range 5000 {
		b := c.mess()
		want, fault := model(b)
		var got []rune
		rest := b
		for r, n := utf.Next(rest); n > 0; r, n = utf.Next(rest) {
			got = append(got, r)
			rest = rest[n:]
		}
		if !slices.Equal(got, want) || (len(rest) == 0) != (fault.Why == 0) {
			t.Fatalf("% X: %X, and % X is left", b, got, rest)
		}
	}
}

// P4.2: a text's characters are counted; of what is no text there are none, though characters stand ahead of the fault.
func TestCountKnown(t *testing.T) {
	for n, b := range [][]byte{{}, {'a'}, []byte("a\u00e9"), []byte("\u20ac\u00e9\U0001F600"), []byte("\uFFFDabc")} {
		if got := utf.Count(b); got != n {
			t.Fatal(b, got)
		}
		for _, wrong := range []byte{0x80, 0xC3, 0xF4, 0xFF} {
			if got := utf.Count(append(b, wrong)); got != 0 {
				t.Fatal(b, wrong, got)
			}
		}
	}
}

// P4.3: the bytes of characters, put one behind the other, are a text of these.
func TestPutIsText(t *testing.T) {
	c := chance(43)
	for n := range 400 {
		runes := c.characters(n % 40)
		var b []byte
		for _, r := range runes {
			var err api.Errno
			if b, err = utf.Put(b, r); err != api.OK {
				t.Fatal(r, err)
			}
		}
		expectText(t, b, runes...)
	}
	for _, r := range edges {
		for _, s := range edges {
			expectText(t, bytesOf(r, s), r, s)
		}
	}
}

// P4.4: a text and a text are a text, of both one's characters; a text cut within a character is made whole by the rest.
func TestTextAndText(t *testing.T) {
	c := chance(44)
	for range 2000 {
		one, two := c.characters(c.below(20)), c.characters(c.below(20))
		b := join(bytesOf(one...), bytesOf(two...))
		expectText(t, b, append(one, two...)...)
		if n := utf.Count(bytesOf(one...)) + utf.Count(bytesOf(two...)); n != utf.Count(b) {
			t.Fatal(b, n)
		}
		at := c.below(len(b) + 1)
		if utf.Check(b[:at]).Why == 0 {
			if utf.Check(b[at:]).Why != 0 {
				t.Fatal(b, at)
			}
		} else if f := utf.Check(b[:at]); f.At != at {
			t.Fatal(b, at, f)
		}
	}
}

// P4.5: whatever is behind a fault's byte does not turn the fault, and up to it there is none but that bytes are missing.
func TestFaultHangsOnBytesAhead(t *testing.T) {
	c := chance(45)
	found := 0
	for range 20000 {
		b := c.mess()
		f := utf.Check(b)
		if f.Why == 0 || f.At == len(b) {
			continue
		}
		found++
		for _, behind := range [][]byte{nil, {0x80}, {0xFF}, []byte("abc"), c.mess()} {
			expectFault(t, join(b[:f.At+1], behind), f.At)
		}
		if g := utf.Check(b[:f.At]); g.Why != 0 && g.At != f.At {
			t.Fatal(b, f, g)
		}
	}
	if found < 1000 {
		t.Fatal("too few faults:", found)
	}
}

// P4.5 and P4.1: a fault behind all bytes goes away with the bytes that were missing.
func TestMissingBytesGiven(t *testing.T) {
	for _, r := range edges {
		b := bytesOf('a', r, 'b')
		for n := 2; n < 1+sizeOf(r); n++ {
			expectFault(t, b[:n], n)
		}
		expectText(t, b, 'a', r, 'b')
	}
}

// R4: what is handed in, and the room behind it, stays as it is, also when what was answered is written over.
func TestNothingHandedInIsChanged(t *testing.T) {
	for _, head := range [][]byte{nil, []byte("a\u00e9\u20ac\U0001F600"), {'a', 0xE0, 0x80}, {0xF0, 0x9F}} {
		kept := join(head, []byte{0xC3, 0xA9, 1, 2, 3, 4, 5, 6})
		all := slices.Clone(kept)
		b := all[:len(head)]
		expectModel(t, b)
		put, _ := utf.Put(b, 0x1F600)
		utf.Put(b, 0xD800)
		runes, _ := utf.Runes(b)
		for i := range put {
			put[i] = 0xEE
		}
		_ = append(put, 0xEE)
		for i := range runes {
			runes[i] = -1
		}
		if !bytes.Equal(all, kept) {
			t.Fatalf("% X has become % X", kept, all)
		}
		expectModel(t, b)
	}
}

// R4: nothing that is handed in is kept: writing over it does not turn what was answered.
func TestNothingHandedInIsKept(t *testing.T) {
	b := make([]byte, 3, 20)
	copy(b, "a\u00e9")
	put, _ := utf.Put(b, 'z')
	again, _ := utf.Put(b, 'y')
	runes, _ := utf.Runes(b)
	for i := range b[:20] {
		b[:20][i] = 0xFF
	}
	if string(put) != "a\u00e9z" || string(again) != "a\u00e9y" || !slices.Equal(runes, []rune{'a', 0xE9}) {
		t.Fatal(put, again, runes)
	}
	expectFault(t, b, 0)
}

// R4: two answers share nothing.
func TestAnswersApart(t *testing.T) {
	b := []byte("a\u00e9")
	one, _ := utf.Runes(b)
	two, _ := utf.Runes(b)
	one[0] = 'x'
	if two[0] != 'a' {
		t.Fatal(two)
	}
	first, _ := utf.Put(b, 'b')
	left, _ := utf.Put(first, 'c')
	right, _ := utf.Put(first, 'd')
	if string(left) != "a\u00e9bc" || string(right) != "a\u00e9bd" {
		t.Fatal(left, right)
	}
}

// R6: nil and empty are the same.
func TestNilIsEmpty(t *testing.T) {
	for _, b := range [][]byte{nil, {}} {
		if runes, f := utf.Runes(b); len(runes) != 0 || f != (api.Fault{}) {
			t.Fatal(runes, f)
		}
		if runes, f := utf.Runes(append(b, 0xFF)); len(runes) != 0 || f != (api.Fault{Why: api.ErrUtf, At: 0}) {
			t.Fatal(runes, f)
		}
	}
}
