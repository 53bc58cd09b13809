package handle_test

import (
	"fmt"
	"math"
	"math/rand"
	"slices"
	"strings"
	"testing"

	"quarto/api"
	"quarto/handle"
)

// P10.1: handles of ordinary slots and generations, and of the first and last ones.
func TestMake(t *testing.T) {
	for _, slot := range slots() {
		for _, gen := range gens() {
			isMake(t, slot, gen, made(slot, gen), api.OK)
		}
	}
	for slot := range api.MaxSlots {
		isMake(t, slot, 1, made(slot, 1), api.OK)
		isMake(t, slot, lastGen, made(slot, lastGen), api.OK)
	}
	isMake(t, 0, 1, 65536, api.OK)
	isMake(t, 3, 2, 131075, api.OK)
	isMake(t, 16383, 4294967295, 281474976661503, api.OK)
	isMake(t, 0, 4294967295, 281474976645120, api.OK)
	isMake(t, 16383, 1, 81919, api.OK)
}

// P10.1: slots and generations that do not exist, one of the two, and both.
func TestMakeErrors(t *testing.T) {
	for _, slot := range noSlots() {
		for _, gen := range slices.Concat(gens(), noGens()) {
			isMake(t, slot, gen, 0, api.ErrRange)
		}
	}
	for _, gen := range noGens() {
		for _, slot := range slots() {
			isMake(t, slot, gen, 0, api.ErrRange)
		}
	}
	isMake(t, -1, 0, 0, api.ErrRange)
	isMake(t, -1, 1, 0, api.ErrRange)
	isMake(t, api.MaxSlots-1, 1, 81919, api.OK)
	isMake(t, api.MaxSlots, 1, 0, api.ErrRange)
	isMake(t, math.MinInt, 1, 0, api.ErrRange)
	isMake(t, math.MaxInt, 1, 0, api.ErrRange)
	isMake(t, 0, 0, 0, api.ErrRange)
	isMake(t, 0, api.MaxGen, 281474976645120, api.OK)
	isMake(t, 0, api.MaxGen+1, 0, api.ErrRange)
	isMake(t, 0, math.MaxUint64, 0, api.ErrRange)
}

// P10.1, Check, P10.2, Slot and Gen, and P10.3, Text: valid handles.
func TestValid(t *testing.T) {
	for _, h := range handles() {
		slot, gen, _ := parts(h)
		isHandle(t, h, slot, gen)
	}
	isHandle(t, 65536, 0, 1)
	isHandle(t, 131075, 3, 2)
	isHandle(t, 81919, 16383, 1)
	isHandle(t, 281474976645120, 0, 4294967295)
	isHandle(t, 281474976661503, 16383, 4294967295)
}

// P10.1 to P10.3: numbers that are not valid handles, for all functions.
func TestNotValid(t *testing.T) {
	for _, h := range noHandles() {
		isNone(t, h)
	}
	for _, h := range []api.Handle{0, 3, 16383, 16384, 65535, 65536 + 16384, 281474976661504, 281474976710655, 281474976710656, math.MaxUint64} {
		isNone(t, h)
	}
}

// P10.1 to P10.3: all remainders, with quotients around the first and the last generation.
func TestRemainders(t *testing.T) {
	for remainder := range 65536 {
		for _, gen := range []uint64{0, 1, 2, lastGen - 1, lastGen, lastGen + 1, 1<<48 - 1} {
			h := made(remainder, gen)
			if slot, gen, is := parts(h); is {
				isHandle(t, h, slot, gen)
			} else {
				isNone(t, h)
			}
		}
	}
}

// P10.2: the next generation of a slot, as long as there is one; a number that is not a valid handle is told first.
func TestNext(t *testing.T) {
	for _, h := range handles() {
		if _, gen, _ := parts(h); gen == lastGen {
			isNext(t, h, 0, api.ErrRange)
		} else {
			isNext(t, h, h+65536, api.OK)
		}
	}
	isNext(t, 131075, 196611, api.OK)
	isNext(t, 65536, 131072, api.OK)
	isNext(t, made(lastSlot, lastGen-1), made(lastSlot, lastGen), api.OK)
	for slot := range 65536 {
		if slot <= lastSlot {
			isNext(t, made(slot, 1), made(slot, 2), api.OK)
			isNext(t, made(slot, lastGen), 0, api.ErrRange)
		} else {
			isNext(t, made(slot, 1), 0, api.ErrArg)
			isNext(t, made(slot, lastGen), 0, api.ErrArg)
		}
		isNext(t, made(slot, 0), 0, api.ErrArg)
		isNext(t, made(slot, lastGen+1), 0, api.ErrArg)
	}
}

// P10.3, Parse: the texts of handles, and of slots and generations that do not exist.
func TestParse(t *testing.T) {
	for _, slot := range slots() {
		for _, gen := range gens() {
			isParse(t, fmt.Sprintf("%d.%d", slot, gen), made(slot, gen), api.OK)
		}
		for _, gen := range noGens() {
			isParse(t, fmt.Sprintf("%d.%d", slot, gen), 0, api.ErrRange)
		}
	}
	for _, slot := range noSlots() {
		e := api.ErrRange
		if slot < 0 {
			e = api.ErrForm
		}
		for _, gen := range slices.Concat(gens(), noGens()) {
			isParse(t, fmt.Sprintf("%d.%d", slot, gen), 0, e)
		}
	}
	isParse(t, "3.2", 131075, api.OK)
	isParse(t, "0.1", 65536, api.OK)
	isParse(t, "16383.4294967295", 281474976661503, api.OK)
	isParse(t, "10.100", 6553610, api.OK)
}

// P10.3, Parse: all short texts of digits, periods and signs.
func TestParseShort(t *testing.T) {
	const alphabet = "0179.-+ "
	var grow func(s string)
	grow = func(s string) {
		h, e := parsed(s)
		isParse(t, s, h, e)
		if len(s) < 6 {
			for _, c := range alphabet {
				grow(s + string(c))
			}
		}
	}
	grow("")
}

// P10.3, Parse: texts of handles and of numbers at the limits, with one byte replaced, added, or left out.
func TestParseChanged(t *testing.T) {
	for _, s := range []string{
		"3.2", "0.1", "16383.4294967295", "16384.1", "0.0", "1.4294967296", "12.18446744073709551615", "18446744073709551616.7",
		digits(20, "9") + "." + digits(20, "9"), "1" + digits(19, "0") + ".1" + digits(19, "0"),
	} {
		for i := range len(s) + 1 {
			var changed []string
			for b := range 256 {
				changed = append(changed, s[:i]+string([]byte{byte(b)})+s[i:])
				if i < len(s) {
					changed = append(changed, s[:i]+string([]byte{byte(b)})+s[i+1:])
				}
			}
			if i < len(s) {
				changed = append(changed, s[:i]+s[i+1:])
			}
			for _, c := range changed {
				h, e := parsed(c)
				isParse(t, c, h, e)
			}
		}
	}
}

// P10.3, Parse: texts that do not have the form, although some would have numbers beyond the limits too.
func TestParseForm(t *testing.T) {
	for _, s := range []string{
		"", ".", "..", "3", "131075", "3.", ".2", "3..2", "3.2.", ".3.2", "3.2.1", "3.2.x", "0.1.2.3", "16384", "4294967296", digits(20, "9"),
		"-3.2", "3.-2", "+3.2", "3.+2", "-0.1", "0.-1", "+0.1", "--3.2", "-1.0", "-1.-1", "-16384.1", "- 3.2", "-.1", "0.-", "+.+", "\xe2\x88\x923.2",
		" 3.2", "3.2 ", "3 .2", "3. 2", "3 2", " ", "3.2\n", "\t3.2", "3.2\r", "3.2\x00", "\x003.2", "3.2\xc2\xa0", "3,2", "3:2", "3_2", "1_0.2", "3.2_0", "3'2",
		"03.2", "3.02", "00.1", "0.01", "000.1", "3.00", "00.0", "0.00", "016383.1", "3.04294967295", "016384.1", "3.04294967296", digits(20, "0") + ".1", "1." + digits(20, "0"), "0." + digits(19, "0") + "1",
		"0x3.2", "3.0x2", "0b1.1", "1e1.1", "1.1e1", "a.1", "1.a", "f.f", "x.0", "16384.x", "1.4294967296x", "3/.2", "3.2:", "/.1", "1.:", "\xff.1", "1.\xff", "\xd9\xa3.\xd9\xa2", "nil", "inf.1",
		digits(21, "9") + ".1", "1." + digits(21, "9"), "1" + digits(20, "0") + ".1", "1.1" + digits(20, "0"), digits(21, "1") + "." + digits(21, "1"), "18446744073709551616" + "0.1", digits(21, "0") + ".1", "16384." + digits(21, "9"), digits(1000, "9") + ".1", "0." + digits(1000, "9"),
		"1." + digits(1000, "0") + "1", digits(1<<20, "1") + ".1", "1." + digits(1<<20, "1"), strings.Repeat("3.2", 1<<18), digits(1<<20, "."), digits(20, "9") + ".", "." + digits(20, "9"), digits(20, "9") + ".01", "01." + digits(20, "9"),
	} {
		isParse(t, s, 0, api.ErrForm)
	}
}

// P10.3, Parse: texts that have the form, with a slot or a generation that does not exist, of up to 20 digits.
func TestParseRange(t *testing.T) {
	for _, s := range []string{
		"3.0", "0.0", "16383.0", "16384.1", "16384.0", "16384.4294967295", "16385.2", "65535.1", "65536.1", "65539.2", "131075.1", "4294967296.1", "4294967299.2",
		"1.4294967296", "0.4294967297", "16383.4294967296", "16384.4294967296", "3.8589934592", "3.281474976710656", "3.281474976710658",
		"9223372036854775807.1", "9223372036854775808.1", "9223372036854775811.2", "18446744073709551615.1", "1.9223372036854775807", "1.9223372036854775808", "1.18446744073709551615",
		"18446744073709551616.1", "18446744073709551617.1", "18446744073709551619.2", "1.18446744073709551616", "1.18446744073709551617", "3.18446744073709551618", // as 64 bits, these would be 0, 1, 3, 2
		"36893488147419103235.2", "3.36893488147419103234", "92233720368547758083.1", "18446744073709551616.18446744073709551617",
		"99999999999999999999.1", "1.99999999999999999999", "99999999999999999999.99999999999999999999", "10000000000000000000.1", "1.10000000000000000000", "0.99999999999999999999", "99999999999999999999.0",
	} {
		isParse(t, s, 0, api.ErrRange)
	}
}

// P10.4: nothing, one, equal and few numbers, in any order.
func TestSort(t *testing.T) {
	isSort(t, nil, nil)
	isSort(t, []api.Handle{}, nil)
	if got := handle.Sort(); len(got) != 0 {
		t.Errorf("Sort of nothing: %v", got)
	}
	for _, h := range slices.Concat(handles(), noHandles()) {
		isSort(t, []api.Handle{h}, []api.Handle{h})
		isSort(t, []api.Handle{h, h}, []api.Handle{h})
		isSort(t, slices.Repeat([]api.Handle{h}, 40), []api.Handle{h})
	}
	isSort(t, []api.Handle{131075, 65536, 65539, 65536}, []api.Handle{65536, 65539, 131075})
	for _, want := range [][]api.Handle{
		{65536, 65539, 131075},
		{0, 65536, 131072, 1, 65537},                                                 // equal remainders
		{made(0, lastGen), made(1, 1), made(1, 2), made(2, 1)},                       // slots before generations
		{made(5, 1), made(5, 2), made(5, 9), made(5, 10), made(5, lastGen)},          // generations alone, not as texts
		{made(2, 7), made(10, 7), made(100, 7), made(1000, 7)},                       // slots alone, not as texts
		{0, 1 << 63, 1, 1<<63 + 1, 65535},                                            // beyond the signed numbers
		{made(lastSlot, 3), made(16384, 1), 16385, 65535, 1<<48 - 1, math.MaxUint64}, // no valid handles, but for the first
		{1 << 48, 1<<48 + 65536, greatest - 65535, 3, 65539, 1<<48 + 3},
	} {
		orders(want, func(l []api.Handle) {
			isSort(t, l, want)
			isSort(t, slices.Concat(l, l), want)
			isSort(t, slices.Concat(l, want, l[:1]), want)
		})
	}
}

// P10.4: short lists of a few numbers, equal ones among them, and long ones.
func TestSortPlain(t *testing.T) {
	few := []api.Handle{0, 1, 65536, 65537, 131072, 16384, greatest}
	var grow func(l []api.Handle)
	grow = func(l []api.Handle) {
		isSort(t, l, sorted(l))
		if len(l) < 5 {
			for _, h := range few {
				grow(append(slices.Clip(l), h))
			}
		}
	}
	grow(nil)
	r := rand.New(rand.NewSource(10))
	for range 300 {
		l := numbers(r, r.Intn(200))
		isSort(t, l, sorted(l))
	}
	for range 50 {
		l := make([]api.Handle, r.Intn(200))
		for i := range l {
			l[i] = api.Handle(r.Uint64())
		}
		isSort(t, l, sorted(l))
	}
	for _, l := range [][]api.Handle{handles(), noHandles()} {
		r.Shuffle(len(l), func(i, j int) { l[i], l[j] = l[j], l[i] })
		isSort(t, l, sorted(l))
	}
}

// P10.4: the handles of all slots, each with two generations, in several orders.
func TestSortAll(t *testing.T) {
	var want, byGen []api.Handle
	for slot := range api.MaxSlots {
		want = append(want, made(slot, 1), made(slot, lastGen))
		byGen = append(byGen, made(slot, lastGen))
	}
	for slot := range api.MaxSlots {
		byGen = append(byGen, made(slot, 1))
	}
	isSort(t, want, want)
	isSort(t, byGen, want)
	isSort(t, slices.Concat(byGen, want), want)
	slices.Reverse(byGen)
	isSort(t, byGen, want)
}
