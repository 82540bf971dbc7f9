package loss_test

import (
	"bytes"
	"cmp"
	"math"
	"slices"
	"strings"
	"testing"
	"unsafe"

	"gantline/api"
	"gantline/loss"
)

// P15.1, P15.2: the document's examples.
func TestExamples(t *testing.T) {
	expectBytes(t, nil, 0)
	expectBytes(t, losses(lossOf(api.LossTag, 5, 1, 0)), 1, 4, 5, 2, 1, 0)
	expectSaid(t, lossOf(api.LossTag, 5, 1, 0), "tag /1/0")
	// The trailer of a message that is all bytes.
	expectBytes(t, losses(lossOf(api.LossBytes, 0)), 1, 3, 0, 0)
}

// P15.1, P15.3: each Kind.
func TestEachKind(t *testing.T) {
	for i, kind := range []int{api.LossFloat, api.LossNan, api.LossBytes, api.LossTag, api.LossMap, api.LossSimple} {
		expectBytes(t, losses(lossOf(kind, 0)), 1, byte(i+1), 0, 0)
		expectBytes(t, losses(lossOf(kind, 7, 3)), 1, byte(i+1), 7, 1, 3)
		expectBytes(t, losses(lossOf(1, 0), lossOf(kind, 300, 1, 2)), 2, 1, 0, 0, byte(i+1), 130, 44, 2, 1, 2)
	}
}

// wideNumbers are the least and the greatest number of each length of a short number, and the greatest of all.
func wideNumbers() []uint64 {
	all := []uint64{0, 1, 2, 23, math.MaxInt64, math.MaxInt64 + 1, math.MaxUint64 - 1, math.MaxUint64, math.Float64bits(1), math.Float64bits(math.NaN())}
	for bits := 7; bits < 64; bits += 7 {
		all = append(all, 1<<bits-1, 1<<bits)
	}
	return all
}

// P15.1, P15.3, P15.4: N of each length, with losses behind it, too.
func TestEachNumber(t *testing.T) {
	expectBytes(t, losses(lossOf(4, 127)), 1, 4, 127, 0)
	expectBytes(t, losses(lossOf(4, 128)), 1, 4, 129, 0, 0)
	expectBytes(t, losses(lossOf(4, 16383)), 1, 4, 255, 127, 0)
	expectBytes(t, losses(lossOf(4, 16384)), 1, 4, 129, 128, 0, 0)
	expectBytes(t, losses(lossOf(1, math.MaxUint64)), 1, 1, 129, 255, 255, 255, 255, 255, 255, 255, 255, 127, 0)
	expectBytes(t, losses(lossOf(1, 1<<63, 9)), 1, 1, 129, 128, 128, 128, 128, 128, 128, 128, 128, 0, 1, 9)
	for _, n := range wideNumbers() {
		for kind := 1; kind <= 6; kind++ {
			expectTold(t, losses(lossOf(kind, n)))
			expectTold(t, losses(lossOf(kind, n, 1, 200), lossOf(kind, n, 4095), lossOf(7-kind, n)))
		}
	}
}

// P15.1, P15.3: Paths of none, one, several and 64 numbers, from 0 to 4095.
func TestPaths(t *testing.T) {
	expectBytes(t, losses(lossOf(5, 0, 0)), 1, 5, 0, 1, 0)
	expectBytes(t, losses(lossOf(5, 0, 127)), 1, 5, 0, 1, 127)
	expectBytes(t, losses(lossOf(5, 0, 128)), 1, 5, 0, 1, 129, 0)
	expectBytes(t, losses(lossOf(5, 0, 4095)), 1, 5, 0, 1, 159, 127)
	expectBytes(t, losses(lossOf(5, 1, 0, 0, 0)), 1, 5, 1, 3, 0, 0, 0)
	expectBytes(t, losses(lossOf(5, 1, 4, 300, 2, 4095)), 1, 5, 1, 4, 4, 130, 44, 2, 159, 127)
	for count := range mostPath + 1 {
		for _, first := range []int{0, 1, 100, 2000, mostStep - mostPath + 1} {
			expectTold(t, losses(lossOf(6, 32, steps(count, first)...)))
			expectTold(t, losses(lossOf(1, 1<<62, steps(count, first)...), lossOf(2, 0, steps(mostPath-count, first)...)))
		}
	}
	for step := range mostStep + 1 {
		expectTold(t, losses(lossOf(2, 9, step), lossOf(3, 9, 1, step, 1)))
	}
}

// P15.1, P15.3: no losses, one, several, and 2048; their bytes begin with how many there are.
func TestCounts(t *testing.T) {
	for _, count := range []int{0, 1, 2, 3, 127, 128, 129, 1024, mostLosses - 1, mostLosses} {
		b := expectTold(t, many(count, lossOf(3, 0)))
		head := []byte{byte(count)}
		if count > 127 {
			head = []byte{128 + byte(count>>7), byte(count & 127)}
		}
		if !bytes.Equal(b, append(head, bytes.Repeat([]byte{3, 0, 0}, count)...)) {
			t.Fatal(count, short(b))
		}
		expectTold(t, many(count, lossOf(4, 55799, 4095, 0, 128)))
	}
	// All that may be: as many losses, of the longest bytes each.
	greatest := lossOf(6, math.MaxUint64, slices.Repeat([]int{mostStep}, mostPath)...)
	if b := expectTold(t, many(mostLosses, greatest)); len(b) != 2+mostLosses*(1+10+1+2*mostPath) {
		t.Fatal(len(b))
	}
}

// P15.1: the order of a list, and losses that are there twice, stay.
func TestOrder(t *testing.T) {
	a, b := lossOf(4, 1, 2), lossOf(1, 3)
	expectBytes(t, losses(a, b), 2, 4, 1, 1, 2, 1, 3, 0)
	expectBytes(t, losses(b, a), 2, 1, 3, 0, 4, 1, 1, 2)
	expectBytes(t, losses(a, a), 2, 4, 1, 1, 2, 4, 1, 1, 2)
}

// P15.1: more than 2048 losses are refused.
func TestTooManyLosses(t *testing.T) {
	for _, count := range []int{mostLosses + 1, mostLosses + 2, 4096, 100_000} {
		expectRefused(t, many(count, lossOf(1, 0)), api.ErrMany)
		expectRefused(t, make([]api.Loss, count), api.ErrMany)
	}
}

// wrongLosses are losses that may not be told.
func wrongLosses() []api.Loss {
	var all []api.Loss
	for _, kind := range []int{0, 7, 8, 127, 128, 129, 256 + 1, 1<<32 + 1, -1, -2, -6, -128, -255, math.MinInt, math.MinInt + 1, math.MaxInt} {
		all = append(all, lossOf(kind, 0), lossOf(kind, 5, 1, 2), lossOf(kind, 0, 4095))
	}
	for kind := 1; kind <= 6; kind++ {
		for _, count := range []int{mostPath + 1, mostPath + 2, 128, 129, 256, 1 << 16, 1<<16 + 1} {
			all = append(all, lossOf(kind, 1, make([]int, count)...))
		}
		for _, step := range []int{-1, -2, -127, -4095, -4096, mostStep + 1, mostStep + 2, 8191, 8192, 1 << 16, 1 << 32, 1<<32 + 1, math.MaxInt, math.MinInt, math.MinInt + 1} {
			all = append(all, lossOf(kind, 0, step), lossOf(kind, 0, 0, step), lossOf(kind, 0, step, 0), lossOf(kind, 9, 4095, step, 4095))
			full := make([]int, mostPath)
			full[mostPath-1] = step
			all = append(all, lossOf(kind, 0, full...))
		}
	}
	return all
}

// P15.1: a list with one loss that may not be told is refused, wherever that stands.
func TestLossesThatMayNotBeTold(t *testing.T) {
	good := lossOf(6, 1, 2, 3)
	for _, x := range wrongLosses() {
		expectRefused(t, losses(x), api.ErrArg)
		expectRefused(t, losses(x, good), api.ErrArg)
		expectRefused(t, losses(good, x), api.ErrArg)
		expectRefused(t, losses(good, x, good), api.ErrArg)
		expectRefused(t, losses(x, x), api.ErrArg)
	}
	l := many(mostLosses, good)
	for _, at := range []int{0, 1, 1000, mostLosses - 1} {
		for _, x := range []api.Loss{lossOf(0, 0), lossOf(7, 0), lossOf(1, 0, -1), lossOf(1, 0, 4096), lossOf(1, 0, make([]int, 65)...)} {
			l[at] = x
			expectRefused(t, l, api.ErrArg)
		}
		l[at] = good
	}
	expectTold(t, l)
}

// P15.1, R1: of a list that is too long and may not be told for other reasons the first error is told.
func TestErrorNamedFirst(t *testing.T) {
	for _, x := range wrongLosses() {
		if len(x.Path) > 256 {
			continue
		}
		l := many(mostLosses, lossOf(2, 0))
		l = append(l, x)
		expectRefused(t, l, api.ErrMany)
		l[0] = x
		expectRefused(t, l, api.ErrMany)
		expectRefused(t, l[1:], api.ErrArg)
		expectRefused(t, l[:mostLosses], api.ErrArg)
	}
}

// P15.1: bytes that end ahead of or within each number.
func TestBytesThatEnd(t *testing.T) {
	expectFault(t, nil, api.ErrEnd, 0)
	expectFault(t, []byte{}, api.ErrEnd, 0)
	expectFault(t, []byte{1}, api.ErrEnd, 1)
	expectFault(t, []byte{129}, api.ErrEnd, 1)
	expectFault(t, []byte{1, 4}, api.ErrEnd, 2)
	expectFault(t, []byte{1, 4, 5}, api.ErrEnd, 3)
	expectFault(t, []byte{1, 4, 133}, api.ErrEnd, 3)
	expectFault(t, []byte{1, 4, 5, 1}, api.ErrEnd, 4)
	expectFault(t, []byte{1, 4, 5, 1, 130}, api.ErrEnd, 5)
	expectFault(t, []byte{1, 4, 5, 2, 1}, api.ErrEnd, 5)
	expectFault(t, []byte{2, 4, 5, 2, 1, 0}, api.ErrEnd, 6)
	// As many as may be, and none of them there.
	expectFault(t, []byte{144, 0}, api.ErrEnd, 2)
	expectFault(t, []byte{144, 0, 1, 0, 64}, api.ErrEnd, 5)
	// A beginning that is too great already, or of a Kind that is none, still lacks a byte.
	expectFault(t, []byte{255, 255}, api.ErrEnd, 2)
	expectFault(t, []byte{1, 255, 255}, api.ErrEnd, 3)
	expectFault(t, []byte{1, 1, 1, 255}, api.ErrEnd, 4)
	expectFault(t, []byte{1, 1, 1, 1, 255, 255}, api.ErrEnd, 6)
}

// wrongShorts are bytes that are no short number, and where the fault is.
func wrongShorts() []struct {
	b  []byte
	at int
} {
	nine := bytes.Repeat([]byte{255}, 9)
	return []struct {
		b  []byte
		at int
	}{
		{[]byte{128}, 0},
		{[]byte{128, 0}, 0},
		{[]byte{128, 128, 1}, 0},
		{append(slices.Clone(nine), 0), 9},
		{append(slices.Clone(nine), 127), 9},
		{append(slices.Clone(nine), 128), 9},
		{append(slices.Clone(nine), 255, 0), 9},
		{append([]byte{130}, append(bytes.Repeat([]byte{128}, 8), 0)...), 9},
		{append([]byte{129}, bytes.Repeat([]byte{128}, 9)...), 9},
	}
}

// P15.1: layer 2's fault of a number that is none, at each place: how many losses, a Kind, N, how many numbers of a Path, and these, of the first loss and of another.
func TestShortsThatAreNone(t *testing.T) {
	for _, head := range [][]byte{{}, {1}, {1, 6}, {1, 6, 0}, {1, 6, 0, 1}, {1, 6, 0, 2, 9}, {2, 6, 0, 0}, {2, 6, 0, 0, 1}, {2, 6, 0, 0, 1, 0}, {2, 6, 0, 0, 1, 0, 1}, {1, 6, 130, 44, 3, 130, 44, 5}} {
		for _, x := range wrongShorts() {
			for _, tail := range [][]byte{nil, {0}, {1, 1, 1, 1}} {
				expectFault(t, slices.Concat(head, x.b, tail), api.ErrForm, len(head)+x.at)
			}
		}
	}
}

// P15.1: more than 2048 losses are ErrMany at the first byte, whatever is behind it.
func TestTooManyLossesInBytes(t *testing.T) {
	for _, count := range []uint64{mostLosses + 1, mostLosses + 2, 4096, 16384, 1<<32 + 1, 1 << 63, 1<<63 + 1, math.MaxUint64 - 1, math.MaxUint64} {
		for _, tail := range [][]byte{nil, {0}, {1, 0, 0}, {128}, {7}, bytes.Repeat([]byte{1, 0, 0}, mostLosses+1)} {
			expectFault(t, append(shorts(count), tail...), api.ErrMany, 0)
		}
	}
	for _, count := range []uint64{0, 1, mostLosses - 1, mostLosses} {
		if wrong := expectModel(t, append(shorts(count), bytes.Repeat([]byte{5, 0, 0}, int(count))...)); wrong != (api.Fault{}) {
			t.Fatal(count, wrong)
		}
	}
}

// P15.1: more than 64 numbers of a Path are ErrMany at the byte at which it is told how many they are, whatever is behind it.
func TestTooLongPathsInBytes(t *testing.T) {
	for _, head := range [][]byte{{1, 1, 0}, {1, 4, 130, 44}, {3, 1, 0, 0, 2, 129, 0}, {2, 1, 0, 2, 129, 0, 5, 6, 129, 128, 0}} {
		for _, count := range []uint64{mostPath + 1, mostPath + 2, 127, 128, 4096, 1<<32 + 1, 1<<63 + 1, math.MaxUint64} {
			for _, tail := range [][]byte{nil, {0}, {128}, bytes.Repeat([]byte{1}, mostPath+1)} {
				expectFault(t, slices.Concat(head, shorts(count), tail), api.ErrMany, len(head))
			}
		}
	}
	if wrong := expectModel(t, append([]byte{1, 1, 0, 64}, make([]byte, 64)...)); wrong != (api.Fault{}) {
		t.Fatal(wrong)
	}
}

// P15.1: a Kind that is none is ErrForm at the byte at which it begins, whatever is behind it.
func TestWrongKindsInBytes(t *testing.T) {
	for _, head := range [][]byte{{1}, {144, 0}, {2, 1, 0, 0}, {2, 1, 130, 44, 2, 129, 0, 5}} {
		for _, kind := range []uint64{0, 7, 8, 127, 128, 129, 130, 256 + 1, 1<<32 + 1, 1<<63 + 1, math.MaxUint64} {
			for _, tail := range [][]byte{nil, {0}, {0, 0}, {0, 0, 0}, {128}, {0, 255}, {0, 65}} {
				expectFault(t, slices.Concat(head, shorts(kind), tail), api.ErrForm, len(head))
			}
		}
		for kind := uint64(1); kind <= 6; kind++ {
			b := slices.Concat(head, shorts(kind), []byte{0})
			expectFault(t, b, api.ErrEnd, len(b))
		}
	}
}

// P15.1: a Path's number above 4095 is ErrForm at the byte at which it begins, whatever is behind it.
func TestWrongStepsInBytes(t *testing.T) {
	for _, head := range [][]byte{{1, 1, 0, 1}, {1, 4, 130, 44, 2, 159, 127}, {2, 1, 0, 0, 5, 0, 3}, {2, 1, 0, 1, 130, 44, 6, 129, 0, 3, 0, 129, 0}} {
		for _, step := range []uint64{mostStep + 1, mostStep + 2, 8191, 16383, 16384, 1 << 32, 1<<32 + 1, 1 << 63, 1<<63 + 1, math.MaxUint64} {
			for _, tail := range [][]byte{nil, {0}, {128}, {0, 0, 0, 0}, {7, 7, 7}} {
				expectFault(t, slices.Concat(head, shorts(step), tail), api.ErrForm, len(head))
			}
		}
		expectModel(t, append(slices.Clone(head), 159, 127))
		expectModel(t, append(slices.Clone(head), 160, 0))
	}
}

// P15.1: bytes behind all are ErrMore at the place behind the list, whatever they are.
func TestBytesBehindAll(t *testing.T) {
	for _, l := range [][]api.Loss{nil, losses(lossOf(4, 5, 1, 0)), losses(lossOf(1, math.MaxUint64), lossOf(6, 0, 4095)), many(mostLosses, lossOf(5, 0))} {
		b := expectTold(t, l)
		for _, tail := range [][]byte{{0}, {1}, {128}, {129}, {255, 255}, {0, 0, 0}, bytes.Repeat([]byte{255}, 20), b} {
			expectFault(t, append(slices.Clone(b), tail...), api.ErrMore, len(b))
		}
	}
}

// P15.1, R1: of several faults the first one is told.
func TestFirstFault(t *testing.T) {
	expectFault(t, []byte{1, 7, 128}, api.ErrForm, 1)
	expectFault(t, []byte{1, 1, 128, 65}, api.ErrForm, 2)
	expectFault(t, []byte{1, 1, 0, 65, 160, 0}, api.ErrMany, 3)
	expectFault(t, []byte{1, 1, 0, 2, 160, 0, 128}, api.ErrForm, 4)
	expectFault(t, []byte{1, 1, 0, 2, 128, 160, 0}, api.ErrForm, 4)
	expectFault(t, []byte{2, 1, 0, 65, 7, 0, 0}, api.ErrMany, 3)
	expectFault(t, []byte{2, 7, 0, 65}, api.ErrForm, 1)
	expectFault(t, []byte{2, 1, 0, 1, 160, 0, 0, 0, 0}, api.ErrForm, 4)
	expectFault(t, []byte{1, 0, 0, 0, 0}, api.ErrForm, 1)
	expectFault(t, []byte{144, 1, 7}, api.ErrMany, 0)
	expectFault(t, []byte{3, 1, 0, 0, 1, 0, 0}, api.ErrEnd, 7)
	expectFault(t, []byte{3, 1, 0, 0, 9}, api.ErrForm, 4)
}

// P15.2: each Kind and others, with Paths of none, one and several numbers.
func TestSay(t *testing.T) {
	for kind, name := range map[int]string{1: "float", 2: "nan", 3: "bytes", 4: "tag", 5: "map", 6: "simple", 0: "?", 7: "?", 8: "?", -1: "?", -4: "?", 256 + 4: "?", 1<<32 + 4: "?", math.MaxInt: "?", math.MinInt: "?"} {
		for _, n := range []uint64{0, 5, math.MaxUint64} {
			expectSaid(t, lossOf(kind, n), name+" /")
			expectSaid(t, api.Loss{Path: []int{}, Kind: kind, N: n}, name+" /")
			expectSaid(t, lossOf(kind, n, 0), name+" /0")
			expectSaid(t, lossOf(kind, n, 12), name+" /12")
			expectSaid(t, lossOf(kind, n, 1, 0), name+" /1/0")
			expectSaid(t, lossOf(kind, n, 0, 0, 4095, 10), name+" /0/0/4095/10")
			expectSaid(t, lossOf(kind, n, -1), name+" /-1")
			expectSaid(t, lossOf(kind, n, 3, -20, 4096, 100000), name+" /3/-20/4096/100000")
			expectSaid(t, lossOf(kind, n, math.MinInt, math.MaxInt, math.MinInt+1), name+" /-9223372036854775808/9223372036854775807/-9223372036854775807")
		}
	}
	expectSaid(t, api.Loss{}, "? /")
	expectSaid(t, lossOf(5, 0, steps(65, 0)...), modelSay(lossOf(5, 0, steps(65, 0)...)))
	if got := loss.Say(lossOf(3, 0, make([]int, 100_000)...)); got != "bytes "+strings.Repeat("/0", 100_000) {
		t.Fatal(short(got))
	}
}

// P15.2: losses by chance, against the model.
func TestSayByChance(t *testing.T) {
	c := chance(152)
	for range 5000 {
		path := make([]int, c.below(5))
		for i := range path {
			path[i] = int(c.next()) >> c.below(64)
		}
		x := lossOf(c.below(12)-3, c.number(), path...)
		expectSaid(t, x, modelSay(x))
	}
}

// P15.1, P15.3: lists by chance, such as may be told and others, against the model; and what is built is parsed as the list.
func TestBuildByChance(t *testing.T) {
	c := chance(151)
	seen := map[api.Errno]int{}
	wrong := wrongLosses()
	for range 5000 {
		l := c.list()
		expectTold(t, l)
		for i := range l {
			if path := l[i].Path; len(path) > 0 && c.below(4) == 0 {
				path[c.below(len(path))] = c.below(5000) - 100
			}
			if c.below(8) == 0 {
				l[i] = wrong[c.below(len(wrong))]
			}
		}
		seen[expectModelBytes(t, l)]++
	}
	if seen[api.OK] < 100 || seen[api.ErrArg] < 100 {
		t.Fatal(seen)
	}
}

// P15.1, P15.4: lists' bytes, spoiled by chance, against the model; and bytes that are parsed are those that are built.
func TestParseByChance(t *testing.T) {
	c := chance(154)
	seen := map[api.Errno]int{}
	for range 30_000 {
		b, _ := modelBuild(c.list())
		for range 1 + c.below(3) {
			if len(b) > 0 {
				b = c.spoiled(b)
			}
		}
		seen[expectModel(t, b).Why]++
		expectBuiltAgain(t, b)
	}
	for _, why := range []api.Errno{api.OK, api.ErrEnd, api.ErrForm, api.ErrMany, api.ErrMore} {
		if seen[why] < 100 {
			t.Fatal(seen)
		}
	}
}

// expectBuiltAgain wants bytes that are parsed to be those that are built, and tells whether they are parsed.
func expectBuiltAgain(t *testing.T, b []byte) bool {
	t.Helper()
	l, wrong := loss.Parse(b)
	if wrong != (api.Fault{}) {
		return false
	}
	if again, why := loss.Build(l); !bytes.Equal(again, b) || why != api.OK {
		t.Fatalf("%s is parsed as %s, and that built as %s, %v", short(b), short(l), short(again), why)
	}
	return true
}

// P15.1, P15.4: all bytes of up to four, of values at the edges, against the model.
func TestAllShortBytes(t *testing.T) {
	edges := []byte{0, 1, 2, 3, 6, 7, 8, 63, 64, 65, 127, 128, 129, 143, 144, 145, 159, 160, 255}
	parsed := 0
	var grow func(b []byte)
	grow = func(b []byte) {
		expectModel(t, b)
		if expectBuiltAgain(t, b) {
			parsed++
		}
		if len(b) == 4 {
			return
		}
		for _, x := range edges {
			grow(append(slices.Clip(b), x))
		}
	}
	grow(nil)
	// None; and one of the four Kinds that the edges have, with an N of one byte and no Path.
	if want := 1 + 4*11; parsed != want {
		t.Fatal(parsed, want)
	}
	for a := range 256 {
		for b := range 256 {
			expectModel(t, []byte{byte(a), byte(b)})
			expectModel(t, []byte{1, byte(a), byte(b), 0})
			expectModel(t, []byte{1, 1, byte(a), byte(b)})
			expectModel(t, []byte{1, 1, 0, 1, byte(a), byte(b)})
		}
	}
}

// P15.5: no beginning of a list's bytes is one: it lacks bytes.
func TestBeginnings(t *testing.T) {
	c := chance(155)
	lists := [][]api.Loss{nil, losses(lossOf(4, 5, 1, 0)), losses(lossOf(1, math.MaxUint64)), losses(lossOf(6, 300, steps(mostPath, 4000)...), lossOf(3, 0)), many(200, lossOf(5, 0))}
	for range 300 {
		lists = append(lists, c.list())
	}
	for _, l := range lists {
		b := expectTold(t, l)
		for end := range b {
			expectFault(t, b[:end], api.ErrEnd, end)
		}
	}
}

// R6: lists that are nil and those that are empty are the same.
func TestEmptyLists(t *testing.T) {
	for _, l := range [][]api.Loss{nil, {}, make([]api.Loss, 0, 5)} {
		expectBytes(t, l, 0)
	}
	for _, path := range [][]int{nil, {}, make([]int, 0, 5)} {
		expectBytes(t, losses(api.Loss{Path: path, Kind: 2, N: 1}), 1, 2, 1, 0)
		expectSaid(t, api.Loss{Path: path, Kind: 2, N: 1}, "nan /")
	}
	for _, b := range [][]byte{nil, {}, make([]byte, 0, 5)} {
		expectFault(t, b, api.ErrEnd, 0)
	}
}

// clone is a list in memory of its own.
func clone(l []api.Loss) []api.Loss {
	l = slices.Clone(l)
	for i := range l {
		l[i].Path = slices.Clone(l[i].Path)
	}
	return l
}

// R4: what was handed in does not turn, nor the room behind it.
func TestArgumentsDoNotTurn(t *testing.T) {
	c := chance(40)
	for range 500 {
		l := append(c.list(), lossOf(1, 0, 1, 2), lossOf(5, 1))
		for i := range l {
			l[i].Path = append(l[i].Path, 77, 78)[:len(l[i].Path)]
		}
		ahead, part := clone(l), l[:len(l)-1]
		loss.Build(part)
		loss.Build(l)
		for _, x := range l {
			loss.Say(x)
		}
		if !same(l, ahead) {
			t.Fatal(short(l), short(ahead))
		}
		for _, x := range l {
			if n := len(x.Path); x.Path[:n+2][n] != 77 || x.Path[:n+2][n+1] != 78 {
				t.Fatal("the room behind a Path turned", short(x.Path[:n+2]))
			}
		}
		b, _ := modelBuild(l)
		b = append(b, 1, 2, 3)
		whole := slices.Clone(b)
		for end := range b {
			loss.Parse(b[:end])
		}
		if !bytes.Equal(b, whole) {
			t.Fatal(short(b), short(whole))
		}
	}
}

// span is a piece of memory.
type span struct {
	from, to uintptr
	name     string
}

// spanOf is the memory of a list, with the room behind it.
func spanOf[T any](name string, list []T) span {
	from := uintptr(unsafe.Pointer(unsafe.SliceData(list)))
	var one T
	return span{from, from + uintptr(cap(list))*unsafe.Sizeof(one), name}
}

// lossSpans is all memory of losses.
func lossSpans(l []api.Loss) []span {
	all := []span{spanOf("losses", l)}
	for _, x := range l {
		all = append(all, spanOf("Path", x.Path))
	}
	return all
}

// shared is a piece of memory that two of these have in common, in words; none, if there is no such one.
func shared(all []span) string {
	all = slices.DeleteFunc(all, func(s span) bool { return s.from == s.to })
	slices.SortFunc(all, func(a, b span) int { return cmp.Compare(a.from, b.from) })
	for i := 1; i < len(all); i++ {
		if all[i-1].to > all[i].from {
			return all[i-1].name + " and " + all[i].name
		}
	}
	return ""
}

// R4: what is answered is new memory, of which no two lists share any.
func TestAnswersAreNewMemory(t *testing.T) {
	c := chance(41)
	lists := [][]api.Loss{nil, many(300, lossOf(4, 1, 1, 2, 3)), many(50, lossOf(4, 1, steps(mostPath, 0)...))}
	for range 300 {
		lists = append(lists, c.list())
	}
	for _, l := range lists {
		b, _ := loss.Build(l)
		again, _ := loss.Build(l)
		one, _ := loss.Parse(b)
		other, _ := loss.Parse(b)
		all := slices.Concat(lossSpans(l), lossSpans(one), lossSpans(other), []span{spanOf("bytes", b), spanOf("bytes again", again)})
		if pair := shared(all); pair != "" {
			t.Fatal(short(l), pair)
		}
	}
}

// R4: what was answered may be written over and added to, which turns nothing else.
func TestAnswersAreTheCallers(t *testing.T) {
	c := chance(42)
	for range 300 {
		l := c.list()
		ahead := clone(l)
		want, _ := modelBuild(l)
		b, _ := loss.Build(l)
		got, _ := loss.Parse(b)
		clear(b[:cap(b)])
		if !same(got, l) {
			t.Fatal(short(got), short(l))
		}
		for i := range got {
			got[i].Path = append(got[i].Path, -5, -6)
			for j := range got[i].Path {
				got[i].Path[j] = -7
			}
			for _, x := range got[i+1:] {
				if slices.Contains(x.Path, -7) || slices.Contains(x.Path, -5) {
					t.Fatal("Paths share memory", short(got))
				}
			}
		}
		clear(got)
		if !same(l, ahead) {
			t.Fatal(short(l), short(ahead))
		}
		expectBytes(t, l, want...)
	}
}

// R3: the same arguments have the same answers, whatever was called in between.
func TestSameAnswers(t *testing.T) {
	c := chance(43)
	for range 300 {
		l, other := c.list(), c.list()
		b := expectTold(t, l)
		wrong := c.spoiled(b)
		first := expectModel(t, wrong)
		expectTold(t, other)
		loss.Say(lossOf(9, 9, 9))
		expectRefused(t, losses(lossOf(7, 0)), api.ErrArg)
		expectBytes(t, l, b...)
		if again := expectModel(t, wrong); again != first {
			t.Fatal(first, again)
		}
	}
}
