package loss_test

import (
	"bytes"
	"fmt"
	"math"
	"math/big"
	"slices"
	"strings"
	"testing"

	"gantline/api"
	"gantline/loss"
)

// The document's bounds.
const (
	mostLosses = 2048
	mostPath   = 64
	mostStep   = 4095
)

// modelShort are a number's bytes, by its digits to the base 2, seven a byte.
func modelShort(n uint64) []byte {
	digits := fmt.Sprintf("%b", n)
	digits = strings.Repeat("0", (7-len(digits)%7)%7) + digits
	var b []byte
	for ; len(digits) > 0; digits = digits[7:] {
		mark := "1"
		if len(digits) == 7 {
			mark = "0"
		}
		x, _ := new(big.Int).SetString(mark+digits[:7], 2)
		b = append(b, byte(x.Uint64()))
	}
	return b
}

// shorts are the bytes of numbers, one behind the other.
func shorts(all ...uint64) []byte {
	b := []byte{}
	for _, n := range all {
		b = append(b, modelShort(n)...)
	}
	return b
}

// numbers are those that the document's words tell for a list, whether it may be told or not.
func numbers(l []api.Loss) []uint64 {
	all := []uint64{uint64(len(l))}
	for _, x := range l {
		all = append(all, uint64(x.Kind), x.N, uint64(len(x.Path)))
		for _, step := range x.Path {
			all = append(all, uint64(step))
		}
	}
	return all
}

// modelBuild is what Build must answer.
func modelBuild(l []api.Loss) ([]byte, api.Errno) {
	if len(l) > mostLosses {
		return nil, api.ErrMany
	}
	for _, x := range l {
		names := map[int]bool{api.LossFloat: true, api.LossNan: true, api.LossBytes: true, api.LossTag: true, api.LossMap: true, api.LossSimple: true}
		far := slices.ContainsFunc(x.Path, func(step int) bool { return step != min(max(step, 0), mostStep) })
		if !names[x.Kind] || len(x.Path) > mostPath || far {
			return nil, api.ErrArg
		}
	}
	return shorts(numbers(l)...), api.OK
}

// place is a number, the byte at which it begins and the one behind it; or the fault of one that can't be read.
type place struct {
	n        uint64
	from, to int
	fault    api.Fault
}

// cutShort reads the number that begins at a byte.
func cutShort(b []byte, from int) place {
	if from < len(b) && b[from] == 128 {
		return place{fault: fault(api.ErrForm, from)}
	}
	n := new(big.Int)
	for i := from; i < len(b); i++ {
		n.Add(n.Lsh(n, 7), big.NewInt(int64(b[i]%128)))
		if i == from+9 && (b[i] >= 128 || n.BitLen() > 64) {
			return place{fault: fault(api.ErrForm, i)}
		}
		if b[i] < 128 {
			return place{n: n.Uint64(), from: from, to: i + 1}
		}
	}
	return place{fault: fault(api.ErrEnd, len(b))}
}

// cutAll are the numbers of bytes, one behind the other; the last one is that which can't be read.
func cutAll(b []byte) []place {
	all := []place{cutShort(b, 0)}
	for all[len(all)-1].fault.Why == api.OK {
		all = append(all, cutShort(b, all[len(all)-1].to))
	}
	return all
}

// modelParse is what Parse must answer: all numbers are cut first, and held against what may stand there then.
func modelParse(b []byte) ([]api.Loss, api.Fault) {
	cut := cutAll(b)
	end, wrong := 0, api.Fault{}
	next := func(why api.Errno, least, most uint64) uint64 {
		if wrong.Why == api.OK {
			wrong = cut[0].fault
		}
		if wrong.Why == api.OK && (cut[0].n < least || cut[0].n > most) {
			wrong = fault(why, cut[0].from)
		}
		if wrong.Why != api.OK {
			return 0
		}
		n := cut[0].n
		end, cut = cut[0].to, cut[1:]
		return n
	}
	l := make([]api.Loss, next(api.ErrMany, 0, mostLosses))
	for i := range l {
		l[i].Kind = int(next(api.ErrForm, 1, 6))
		l[i].N = next(api.OK, 0, math.MaxUint64)
		l[i].Path = make([]int, next(api.ErrMany, 0, mostPath))
		for j := range l[i].Path {
			l[i].Path[j] = int(next(api.ErrForm, 0, mostStep))
		}
	}
	if wrong.Why == api.OK && end < len(b) {
		wrong = fault(api.ErrMore, end)
	}
	if wrong.Why != api.OK {
		return nil, wrong
	}
	return l, api.Fault{}
}

// modelSay is what Say must answer.
func modelSay(x api.Loss) string {
	name := "?"
	if x.Kind > 0 && x.Kind < 7 {
		name = strings.Fields("float nan bytes tag map simple")[x.Kind-1]
	}
	if len(x.Path) == 0 {
		return name + " /"
	}
	text := name + " "
	for _, step := range x.Path {
		text += "/" + big.NewInt(int64(step)).String()
	}
	return text
}

func fault(why api.Errno, at int) api.Fault { return api.Fault{Why: why, At: at} }

func lossOf(kind int, n uint64, path ...int) api.Loss { return api.Loss{Path: path, Kind: kind, N: n} }

func losses(all ...api.Loss) []api.Loss { return all }

// many are so many losses of one kind.
func many(count int, x api.Loss) []api.Loss {
	l := make([]api.Loss, count)
	for i := range l {
		l[i] = api.Loss{Path: slices.Clone(x.Path), Kind: x.Kind, N: x.N}
	}
	return l
}

// steps is a Path of so many numbers, from one on.
func steps(count, first int) []int {
	path := make([]int, count)
	for i := range path {
		path[i] = first + i
	}
	return path
}

// same says whether two lists are, be they nil or empty.
func same(a, b []api.Loss) bool {
	return slices.EqualFunc(a, b, func(a, b api.Loss) bool {
		return a.Kind == b.Kind && a.N == b.N && slices.Equal(a.Path, b.Path)
	})
}

// short is a value in words, cut off, if they are many.
func short(x any) string {
	text := fmt.Sprint(x)
	if len(text) > 300 {
		return text[:300] + " .."
	}
	return text
}

// expectBytes wants a list's bytes to be just these, and to be parsed as the list.
func expectBytes(t *testing.T, l []api.Loss, want ...byte) {
	t.Helper()
	if b, why := loss.Build(l); !bytes.Equal(b, want) || why != api.OK {
		t.Fatalf("built %s: %s, %v; must be %s", short(l), short(b), why, short(want))
	}
	if got, wrong := loss.Parse(want); !same(got, l) || wrong != (api.Fault{}) {
		t.Fatalf("parsed %s: %s, %v; must be %s", short(want), short(got), wrong, short(l))
	}
}

// expectTold wants a list to be built as the model does it, and to come back.
func expectTold(t *testing.T, l []api.Loss) []byte {
	t.Helper()
	want, why := modelBuild(l)
	if why != api.OK {
		t.Fatalf("the model refuses %s: %v", short(l), why)
	}
	expectBytes(t, l, want...)
	return want
}

// expectRefused wants no bytes of a list.
func expectRefused(t *testing.T, l []api.Loss, want api.Errno) {
	t.Helper()
	if b, why := loss.Build(l); len(b) != 0 || why != want {
		t.Fatalf("built %s: %s, %v; must be %v", short(l), short(b), why, want)
	}
}

// expectFault wants no losses of bytes.
func expectFault(t *testing.T, b []byte, why api.Errno, at int) {
	t.Helper()
	if l, wrong := loss.Parse(b); len(l) != 0 || wrong != fault(why, at) {
		t.Fatalf("parsed %s: %s, %v; must be {%v %d}", short(b), short(l), wrong, why, at)
	}
	if _, wrong := modelParse(b); wrong != fault(why, at) {
		t.Fatalf("the model's fault of %s is %v", short(b), wrong)
	}
}

// expectModel wants of bytes what the model says.
func expectModel(t *testing.T, b []byte) api.Fault {
	t.Helper()
	want, wrong := modelParse(b)
	if l, got := loss.Parse(b); !same(l, want) || got != wrong {
		t.Fatalf("parsed %s: %s, %v; must be %s, %v", short(b), short(l), got, short(want), wrong)
	}
	return wrong
}

// expectModelBytes wants of a list what the model says.
func expectModelBytes(t *testing.T, l []api.Loss) api.Errno {
	t.Helper()
	want, wrong := modelBuild(l)
	if b, why := loss.Build(l); !bytes.Equal(b, want) || why != wrong {
		t.Fatalf("built %s: %s, %v; must be %s, %v", short(l), short(b), why, short(want), wrong)
	}
	return wrong
}

// expectSaid wants a loss to be said so.
func expectSaid(t *testing.T, x api.Loss, want string) {
	t.Helper()
	if got := loss.Say(x); got != want || modelSay(x) != want {
		t.Fatalf("said %s: %s; the model %s; must be %s", short(x), short(got), short(modelSay(x)), short(want))
	}
}

// chance are numbers without a pattern, the same at each run.
type chance uint64

func (c *chance) next() uint64 {
	*c ^= *c << 13
	*c ^= *c >> 7
	*c ^= *c << 17
	return uint64(*c) * 2685821657736338717
}

func (c *chance) below(n int) int { return int(c.next() >> 1 % uint64(n)) }

// number is one of any length.
func (c *chance) number() uint64 { return c.next() >> c.below(64) }

// path is one that may be told.
func (c *chance) path() []int {
	path := make([]int, c.below(4))
	if c.below(20) == 0 {
		path = make([]int, mostPath-c.below(3))
	}
	for i := range path {
		path[i] = c.below(mostStep+1) >> c.below(13)
	}
	return path
}

// list is one that may be told.
func (c *chance) list() []api.Loss {
	l := make([]api.Loss, c.below(6))
	for i := range l {
		l[i] = lossOf(1+c.below(6), c.number(), c.path()...)
	}
	return l
}

// spoiled are bytes with one that is turned, put in or left out, or cut off.
func (c *chance) spoiled(b []byte) []byte {
	b = slices.Clone(b)
	at := c.below(len(b))
	switch c.below(5) {
	case 0:
		b[at] = byte(c.next())
	case 1:
		b[at] ^= 1 << c.below(8)
	case 2:
		return slices.Insert(b, at, byte(c.next()))
	case 3:
		return slices.Delete(b, at, at+1)
	case 4:
		return b[:at]
	}
	return b
}
