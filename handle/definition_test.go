package handle_test

import (
	"fmt"
	"math"
	"math/big"
	"math/rand"
	"regexp"
	"slices"
	"strings"
	"testing"

	"quarto/api"
	"quarto/handle"
)

// This file has what the tests share: slots, generations, numbers and texts of all sorts, and the definitions of the chapter.

const (
	greatest = math.MaxUint64
	lastSlot = 16383
	lastGen  = 4294967295
)

// slots are slots from the first to the last one, among them all powers of 2 and their neighbours.
func slots() []int {
	l := []int{0, 3, 77, 10000, lastSlot}
	for n := 1; n <= lastSlot; n *= 2 {
		l = append(l, n, n-1, n+1)
	}
	return l
}

// noSlots are numbers that are no slots, some of which have the last bits of one.
func noSlots() []int {
	return []int{
		-1, -2, -3, -lastSlot, -lastSlot - 1, -65536, -65535, -65536 * 3, math.MinInt32, math.MinInt, math.MinInt + 1, math.MinInt + 3,
		lastSlot + 1, lastSlot + 2, 20000, 32767, 32768, 65535, 65536, 65537, 65536 + lastSlot, 1 << 20, math.MaxInt32, math.MaxInt, math.MaxInt - 1, math.MaxInt - 65535,
		1 << 32, 1<<32 + 3, 1 << 48, 1<<62 + 3,
	}
}

// gens are generations from the first to the last one, among them all powers of 2 and their neighbours.
func gens() []uint64 {
	l := []uint64{1, 5, 77, 1000000007, lastGen - 1, lastGen}
	for n := uint64(2); n <= lastGen; n *= 2 {
		l = append(l, n, n-1, n+1)
	}
	return l
}

// noGens are numbers that are no generations, some of which have the last bits of one.
func noGens() []uint64 {
	return []uint64{
		0, lastGen + 1, lastGen + 2, lastGen + 3, 1 << 33, 1<<33 - 1, 1<<33 + 1, 1 << 47, 1 << 48, 1<<48 - 1, 1<<48 + 1, 1<<48 + lastGen, 1<<48 + lastGen + 1, 3 << 48,
		math.MaxInt64, 1 << 63, 1<<63 + 1, 1<<63 + lastGen, greatest - lastGen, greatest - lastGen + 1, greatest - 1, greatest,
	}
}

// made is the number that the definition makes of a slot and a generation.
func made(slot int, gen uint64) api.Handle { return api.Handle(gen*65536 + uint64(slot)) }

// parts are the slot and the generation of a number, by division, and whether it is a valid handle.
func parts(h api.Handle) (slot int, gen uint64, is bool) {
	slot, gen = int(h%65536), uint64(h/65536)
	return slot, gen, slot <= lastSlot && gen >= 1 && gen <= lastGen
}

// handles are valid handles: each of the slots with each of the generations.
func handles() []api.Handle {
	var l []api.Handle
	for _, slot := range slots() {
		for _, gen := range gens() {
			l = append(l, made(slot, gen))
		}
	}
	return l
}

// noHandles are numbers that are no valid handles, by their slots, their generations, or both.
func noHandles() []api.Handle {
	l := []api.Handle{0, 1, 2, 3, 65535, 65536 + 16384, 2*65536 - 1, 1<<48 - 1, 1 << 48, 1<<48 + 3, 1<<48 + 65536, 1<<48 + 65536 + 3, 1 << 63, 1<<63 + 65536, greatest - 1, greatest}
	noRemainders := []int{lastSlot + 1, lastSlot + 2, 16384 + 3, 20000, 32767, 32768, 32768 + 3, 49152, 49152 + 3, 65534, 65535}
	for _, remainder := range noRemainders {
		for _, gen := range slices.Concat(gens(), []uint64{0, lastGen + 1, 1<<48 - 1}) {
			l = append(l, made(remainder, gen))
		}
	}
	for _, gen := range noGens() {
		for _, slot := range slots() {
			if gen < 1<<48 { // so that it is the generation of a number of 64 bits
				l = append(l, made(slot, gen))
			}
		}
	}
	return l
}

// form is the form that a text must have.
var form = regexp.MustCompile(`\A(0|[1-9][0-9]{0,19})\.(0|[1-9][0-9]{0,19})\z`)

// parsed is the definition of Parse, by numbers of any length.
func parsed(s string) (api.Handle, api.Errno) {
	m := form.FindStringSubmatch(s)
	if m == nil {
		return 0, api.ErrForm
	}
	slot, _ := new(big.Int).SetString(m[1], 10)
	gen, _ := new(big.Int).SetString(m[2], 10)
	if slot.Cmp(big.NewInt(lastSlot)) > 0 || gen.Sign() == 0 || gen.Cmp(big.NewInt(lastGen)) > 0 {
		return 0, api.ErrRange
	}
	h := gen.Mul(gen, big.NewInt(65536))
	return api.Handle(h.Add(h, slot).Uint64()), api.OK
}

// sorted is the definition of Sort: it takes the least one of the numbers that are greater than the last one taken, as long as there is one.
func sorted(l []api.Handle) []api.Handle {
	less := func(a, b api.Handle) bool {
		if a%65536 != b%65536 {
			return a%65536 < b%65536
		}
		return a < b
	}
	out := []api.Handle{}
	for {
		least, has := api.Handle(0), false
		for _, h := range l {
			if (len(out) == 0 || less(out[len(out)-1], h)) && (!has || less(h, least)) {
				least, has = h, true
			}
		}
		if !has {
			return out
		}
		out = append(out, least)
	}
}

// numbers returns n numbers, each with one of a few remainders and quotients, so that many are equal.
func numbers(r *rand.Rand, n int) []api.Handle {
	remainders := []int{0, 1, 2, 3, 255, 256, lastSlot, lastSlot + 1, 40000, 65535}
	quotients := []uint64{0, 1, 2, 3, 256, lastGen - 1, lastGen, lastGen + 1, 1<<47 + 1, 1<<48 - 1}
	l := make([]api.Handle, n)
	for i := range l {
		l[i] = made(remainders[r.Intn(len(remainders))], quotients[r.Intn(len(quotients))])
	}
	return l
}

// orders calls f with each order of the numbers of l.
func orders(l []api.Handle, f func(l []api.Handle)) {
	var place func(done, rest []api.Handle)
	place = func(done, rest []api.Handle) {
		if len(rest) == 0 {
			f(done)
		}
		for i, h := range rest {
			place(append(slices.Clip(done), h), slices.Concat(rest[:i], rest[i+1:]))
		}
	}
	place(nil, l)
}

// show prints the beginning of a value.
func show(x any) string {
	s := fmt.Sprintf("%v", x)
	if text, is := x.(string); is {
		s = fmt.Sprintf("%q", text[:min(len(text), 60)])
	}
	return s[:min(len(s), 200)]
}

// isMake checks what Make returns.
func isMake(t *testing.T, slot int, gen uint64, want api.Handle, e api.Errno) {
	t.Helper()
	if h, got := handle.Make(slot, gen); h != want || got != e {
		t.Fatalf("Make(%d, %d): %d, %d; want %d, %d", slot, gen, h, got, want, e)
	}
}

// isHandle checks what Check, Slot, Gen and Text return for a valid handle.
func isHandle(t *testing.T, h api.Handle, slot int, gen uint64) {
	t.Helper()
	if e := handle.Check(h); e != api.OK {
		t.Fatalf("Check(%d): %d", h, e)
	}
	if s, e := handle.Slot(h); s != slot || e != api.OK {
		t.Fatalf("Slot(%d): %d, %d; want %d", h, s, e, slot)
	}
	if g, e := handle.Gen(h); g != gen || e != api.OK {
		t.Fatalf("Gen(%d): %d, %d; want %d", h, g, e, gen)
	}
	want := fmt.Sprintf("%d.%d", slot, gen)
	if s, e := handle.Text(h); s != want || e != api.OK {
		t.Fatalf("Text(%d): %s, %d; want %s", h, show(s), e, want)
	}
}

// isNext checks what Next returns.
func isNext(t *testing.T, h, want api.Handle, e api.Errno) {
	t.Helper()
	if next, got := handle.Next(h); next != want || got != e {
		t.Fatalf("Next(%d): %d, %d; want %d, %d", h, next, got, want, e)
	}
}

// isNone checks what is returned for a number that is not a valid handle: ErrArg, and zero values.
func isNone(t *testing.T, h api.Handle) {
	t.Helper()
	if e := handle.Check(h); e != api.ErrArg {
		t.Fatalf("Check(%d): %d; want ErrArg", h, e)
	}
	if slot, e := handle.Slot(h); slot != 0 || e != api.ErrArg {
		t.Fatalf("Slot(%d): %d, %d; want ErrArg", h, slot, e)
	}
	if gen, e := handle.Gen(h); gen != 0 || e != api.ErrArg {
		t.Fatalf("Gen(%d): %d, %d; want ErrArg", h, gen, e)
	}
	if s, e := handle.Text(h); s != "" || e != api.ErrArg {
		t.Fatalf("Text(%d): %s, %d; want ErrArg", h, show(s), e)
	}
	isNext(t, h, 0, api.ErrArg)
}

// isParse checks what Parse returns.
func isParse(t *testing.T, s string, want api.Handle, e api.Errno) {
	t.Helper()
	if h, got := handle.Parse(s); h != want || got != e {
		t.Fatalf("Parse(%s), %d bytes: %d, %d; want %d, %d", show(s), len(s), h, got, want, e)
	}
}

// isSort checks what Sort returns, and that l stays as it is.
func isSort(t *testing.T, l, want []api.Handle) {
	t.Helper()
	before := slices.Clone(l)
	if got := handle.Sort(l...); !slices.Equal(got, want) {
		t.Fatalf("Sort of %d numbers, %s: %d numbers, %s; want %d, %s", len(l), show(before), len(got), show(got), len(want), show(want))
	}
	if !slices.Equal(l, before) {
		t.Fatalf("Sort changed %s to %s", show(before), show(l))
	}
}

// digits returns n times the same digit.
func digits(n int, digit string) string { return strings.Repeat(digit, n) }
