package mark_test

import (
	"math"
	"math/rand"
	"slices"
	"strings"
	"testing"

	"quarto/api"
)

// P9.1: all lists of at most two marks of many sorts, for strings of many lengths, and longer lists.
func TestCheck(t *testing.T) {
	var many []api.Mark
	for _, id := range []uint32{0, 1, 2, greatest} {
		for _, at := range []int{-1, 0, 1, 2, 3} {
			for _, g := range []uint8{api.Left, api.Right, 2} {
				many = append(many, api.Mark{ID: id, At: at, Gravity: g})
			}
		}
	}
	for n := -1; n <= 3; n++ {
		isCheck(t, n, nil, checked(n, nil))
		for _, a := range many {
			isCheck(t, n, marks(a), checked(n, marks(a)))
			for _, b := range many {
				isCheck(t, n, marks(a, b), checked(n, marks(a, b)))
			}
		}
	}
	r := rand.New(rand.NewSource(2))
	for range 20000 {
		n := r.Intn(10)
		l := random(r, n, 1+r.Intn(most+2))
		l[r.Intn(len(l))] = many[r.Intn(len(many))]
		isCheck(t, n, l, checked(n, l))
	}
}

// P9.1: the chapter's examples, and the edge cases.
func TestCheckExamples(t *testing.T) {
	for _, x := range []struct {
		n int
		l []api.Mark
		e api.Errno
	}{
		{3, example, api.OK}, {2, example, api.ErrRange}, {9, marks(left(5, 3), left(5, 4)), api.ErrArg}, {9, marks(left(0, 3)), api.ErrArg}, {-1, nil, api.ErrArg},

		// No marks at all.
		{0, nil, api.OK}, {0, marks(), api.OK}, {math.MaxInt, nil, api.OK}, {math.MinInt, nil, api.ErrArg},

		// Positions at the ends, and beyond them.
		{0, marks(left(1, 0)), api.OK}, {0, marks(right(1, 0)), api.OK}, {0, marks(left(1, 1)), api.ErrRange}, {0, marks(right(1, 1)), api.ErrRange},
		{7, marks(left(1, 7), right(2, 7)), api.OK}, {7, marks(left(1, 8)), api.ErrRange}, {7, marks(right(1, 8)), api.ErrRange}, {7, marks(left(1, -1)), api.ErrRange}, {7, marks(right(1, math.MinInt)), api.ErrRange},
		{math.MaxInt, marks(left(1, math.MaxInt)), api.OK}, {math.MaxInt - 1, marks(left(1, math.MaxInt)), api.ErrRange}, {math.MaxInt, marks(left(1, -1)), api.ErrRange},

		// IDs: the least and the greatest one, and ones that do not rise.
		{9, marks(left(1, 0), left(greatest, 0)), api.OK}, {9, marks(left(greatest-1, 0), left(greatest, 0)), api.OK}, {9, marks(left(1<<31-1, 0), left(1<<31, 0)), api.OK},
		{9, marks(left(greatest, 0), left(0, 0)), api.ErrArg}, {9, marks(left(greatest, 0), left(1, 0)), api.ErrArg}, {9, marks(left(greatest, 0), left(greatest, 1)), api.ErrArg}, {9, marks(left(1<<31, 0), left(1<<31-1, 0)), api.ErrArg},
		{9, marks(left(2, 0), left(1, 1)), api.ErrArg}, {9, marks(left(1, 0), left(3, 0), left(2, 0)), api.ErrArg}, {9, marks(left(1, 0), left(2, 0), right(2, 0)), api.ErrArg}, {9, marks(left(0, 0), left(0, 0)), api.ErrArg},

		// Positions need not rise, and may be the same.
		{9, marks(left(1, 9), left(2, 0), right(3, 0), right(4, 9), left(5, 4)), api.OK},

		// Gravities.
		{9, marks(api.Mark{ID: 1, At: 3, Gravity: 2}), api.ErrArg}, {9, marks(api.Mark{ID: 1, At: 3, Gravity: 255}), api.ErrArg}, {9, marks(left(1, 3), api.Mark{ID: 2, At: 3, Gravity: 3}), api.ErrArg},
	} {
		isCheck(t, x.n, x.l, x.e)
	}
}

// P9.1: exactly MaxMarks marks, and one more.
func TestCheckMost(t *testing.T) {
	isCheck(t, 9, numbered(most), api.OK)
	isCheck(t, 8, numbered(most), api.ErrRange)
	isCheck(t, 9, numbered(most+1), api.ErrMarks)
	isCheck(t, 9, make([]api.Mark, most), api.ErrArg)
	isCheck(t, 9, make([]api.Mark, most+1), api.ErrMarks)
	isCheck(t, 9, numbered(100000), api.ErrMarks)
	last := numbered(most)
	last[most-1].ID = last[most-2].ID
	isCheck(t, 9, last, api.ErrArg)
	last = numbered(most)
	last[most-1].At = 10
	isCheck(t, 9, last, api.ErrRange)
}

// P9.1 and R2: which error comes first.
func TestCheckOrder(t *testing.T) {
	gravity := func(id uint32, at int) api.Mark { return api.Mark{ID: id, At: at, Gravity: 2} }
	// The length, then the number of marks, then the marks.
	isCheck(t, -1, make([]api.Mark, most+1), api.ErrArg)
	isCheck(t, -1, marks(left(1, 0)), api.ErrArg)
	isCheck(t, -1, marks(left(1, -1)), api.ErrArg)
	isCheck(t, 0, append(marks(left(1, 9)), make([]api.Mark, most)...), api.ErrMarks)
	isCheck(t, 0, append(marks(left(0, 0)), make([]api.Mark, most)...), api.ErrMarks)
	// Of one mark, its ID and its gravity before its position.
	for _, m := range marks(left(0, 10), left(0, -1), gravity(1, 10), gravity(1, -1), gravity(0, 10)) {
		isCheck(t, 9, marks(m), api.ErrArg)
	}
	isCheck(t, 9, marks(left(5, 3), left(5, 10)), api.ErrArg)
	// Mark by mark.
	isCheck(t, 9, marks(left(1, 10), left(0, 0)), api.ErrRange)
	isCheck(t, 9, marks(left(1, 10), left(1, 0)), api.ErrRange)
	isCheck(t, 9, marks(left(1, -1), gravity(2, 0)), api.ErrRange)
	isCheck(t, 9, marks(left(0, 0), left(2, 10)), api.ErrArg)
	isCheck(t, 9, marks(gravity(1, 0), left(2, 10)), api.ErrArg)
	isCheck(t, 9, marks(left(2, 0), left(1, 0), left(3, 10)), api.ErrArg)
	isCheck(t, 9, marks(left(2, 0), left(3, 10), left(1, 0)), api.ErrRange)
}

// P9.2: all IDs of ordinary sets, those around them, and those that are not there.
func TestSetDrop(t *testing.T) {
	for _, n := range []int{0, 1, 9, 1000, math.MaxInt - 1} {
		for _, l := range sets(n) {
			ids := []uint32{1, 2, 1 << 31, greatest - 1, greatest}
			for _, m := range l {
				ids = append(ids, m.ID, max(m.ID, 2)-1, min(m.ID, greatest-1)+1)
			}
			for _, id := range ids {
				_, has := first(l, id)
				for _, m := range marks(left(id, 0), right(id, n), left(id, math.MaxInt)) {
					if !has && len(l) == most {
						isSet(t, l, m, nil, api.ErrMarks)
						continue
					}
					isSet(t, l, m, with(l, m), api.OK)
				}
				if has {
					isDrop(t, l, id, without(l, id), api.OK)
				} else {
					isDrop(t, l, id, nil, api.ErrNone)
				}
			}
			isDrop(t, l, 0, nil, api.ErrNone)
		}
	}
}

// P9.2: the chapter's examples, and marks at the beginning, at the end and between others.
func TestSetDropExamples(t *testing.T) {
	a, b, c := example[0], example[1], example[2]
	for _, x := range []struct {
		l    []api.Mark
		m    api.Mark
		want []api.Mark
	}{
		{example, left(5, 7), marks(a, left(5, 7), c)},
		{example, right(1, 0), marks(right(1, 0), b, c)}, {example, right(9, 2), marks(a, b, right(9, 2))},
		{example, b, example},
		{example, left(2, 3), marks(a, left(2, 3), b, c)}, {example, left(8, 3), marks(a, b, left(8, 3), c)}, {example, right(10, 3), marks(a, b, c, right(10, 3))}, {example, left(greatest, 0), marks(a, b, c, left(greatest, 0))},
		{marks(b, c), left(1, 5), marks(left(1, 5), b, c)}, {marks(b, c), left(4, 5), marks(left(4, 5), b, c)},
		{nil, left(1, 0), marks(left(1, 0))}, {marks(), right(greatest, math.MaxInt), marks(right(greatest, math.MaxInt))},
		{marks(a), left(1, 4), marks(left(1, 4))}, {marks(a), left(2, 0), marks(a, left(2, 0))}, {marks(b), left(2, 9), marks(left(2, 9), b)},
	} {
		isSet(t, x.l, x.m, x.want, api.OK)
	}
	isDrop(t, example, 2, nil, api.ErrNone)
	for _, x := range []struct {
		l    []api.Mark
		id   uint32
		want []api.Mark
		e    api.Errno
	}{
		{example, 1, marks(b, c), api.OK}, {example, 5, marks(a, c), api.OK}, {example, 9, marks(a, b), api.OK}, {marks(b), 5, nil, api.OK}, {marks(left(greatest, 1)), greatest, nil, api.OK},
		{example, 0, nil, api.ErrNone}, {example, 4, nil, api.ErrNone}, {example, 6, nil, api.ErrNone}, {example, 10, nil, api.ErrNone}, {example, greatest, nil, api.ErrNone}, {marks(b), 1, nil, api.ErrNone},
		{nil, 0, nil, api.ErrNone}, {nil, 1, nil, api.ErrNone}, {marks(), 1, nil, api.ErrNone},
	} {
		isDrop(t, x.l, x.id, x.want, x.e)
	}
}

// P9.2: exactly MaxMarks marks, with one more and with one in the place of another.
func TestSetMost(t *testing.T) {
	l := numbered(most) // even IDs from 2 to 2 * most
	for id := uint32(1); id <= 2*most+1; id++ {
		m := left(id, 77)
		if id%2 == 1 {
			isSet(t, l, m, nil, api.ErrMarks)
			isSet(t, l[:most-1], m, with(l[:most-1], m), api.OK)
			isDrop(t, l, id, nil, api.ErrNone)
			continue
		}
		isSet(t, l, m, with(l, m), api.OK)
		isDrop(t, l, id, without(l, id), api.OK)
	}
	isSet(t, l, left(greatest, 0), nil, api.ErrMarks)
}

// P9.2: lists that are not sets of marks, and marks that are none alone; and R2: before anything else.
func TestSetDropErrors(t *testing.T) {
	for _, l := range badSets() {
		for _, m := range slices.Concat(badMarks, l[:1], marks(left(1, 0), right(3, 3), left(greatest, 0))) {
			isSet(t, l, m, nil, api.ErrArg)
		}
		for _, id := range []uint32{0, 1, 2, 7, l[0].ID, l[len(l)-1].ID, greatest} {
			isDrop(t, l, id, nil, api.ErrArg)
		}
	}
	for _, m := range badMarks {
		isSet(t, nil, m, nil, api.ErrArg)
		isSet(t, example, m, nil, api.ErrArg)
		isSet(t, numbered(most), m, nil, api.ErrArg)
		m.ID = 2 // that of a mark that is there
		if m.At < 0 || m.Gravity > api.Right {
			isSet(t, numbered(most), m, nil, api.ErrArg)
		}
	}
}

// lists are sets of marks, lists that are none, and long ones in no order, with the same IDs and positions many times.
func lists() [][]api.Mark {
	l := slices.Concat(sets(0), sets(9), badSets())
	r := rand.New(rand.NewSource(3))
	for range 60 {
		x := make([]api.Mark, r.Intn(300))
		for i := range x {
			// The gravity tells marks apart that are the same otherwise.
			x[i] = api.Mark{ID: uint32(r.Intn(4)), At: r.Intn(5) - 1, Gravity: uint8(i)}
		}
		l = append(l, x)
	}
	return l
}

// P9.3: all lists, by all of their IDs and some that are not there.
func TestFind(t *testing.T) {
	for _, l := range lists() {
		ids := []uint32{0, 1, 2, 3, 4, 7, greatest}
		for _, m := range l {
			ids = append(ids, m.ID, m.ID+1, m.ID-1)
		}
		for _, id := range ids {
			m, has := first(l, id)
			isFind(t, l, id, m, has)
		}
	}
}

// P9.3: the chapter's examples, and lists that are not sets of marks.
func TestFindExamples(t *testing.T) {
	a, b, c := example[0], example[1], example[2]
	mixed := marks(left(9, 1), left(5, 2), right(9, 3), left(0, -4), left(1, 5), left(5, 6), api.Mark{ID: 3, At: 7, Gravity: 9}, right(0, 8))
	for _, x := range []struct {
		l    []api.Mark
		id   uint32
		want api.Mark
		has  bool
	}{
		{example, 9, c, true}, {example, 1, a, true}, {example, 5, b, true},
		{example, 0, api.Mark{}, false}, {example, 2, api.Mark{}, false}, {example, 7, api.Mark{}, false}, {example, 10, api.Mark{}, false}, {example, greatest, api.Mark{}, false},
		{nil, 0, api.Mark{}, false}, {nil, 1, api.Mark{}, false}, {marks(), greatest, api.Mark{}, false},
		{marks(left(greatest, 4)), greatest, left(greatest, 4), true}, {marks(left(greatest, 4)), 1, api.Mark{}, false}, {marks(left(1, 4)), 1, left(1, 4), true},
		{mixed, 9, left(9, 1), true}, {mixed, 5, left(5, 2), true}, {mixed, 0, left(0, -4), true}, {mixed, 1, left(1, 5), true}, {mixed, 3, mixed[6], true}, {mixed, 2, api.Mark{}, false}, {mixed, 4, api.Mark{}, false}, {mixed, 10, api.Mark{}, false},
		{marks(left(3, 0), left(2, 0), left(1, 0)), 1, left(1, 0), true}, {marks(left(3, 0), left(2, 0), left(1, 0)), 3, left(3, 0), true},
		{marks(api.Mark{}), 0, api.Mark{}, true},
		{marks(left(4, 1), left(4, 2), right(4, 3)), 4, left(4, 1), true}, // with the same ID
		{numbered(1000), 2000, numbered(1000)[999], true},
	} {
		isFind(t, x.l, x.id, x.want, x.has)
	}
}

// P9.3: all lists, by all short ranges and some long ones.
func TestBetween(t *testing.T) {
	ends := []int{math.MinInt, -2, -1, 0, 1, 2, 3, 4, 9, math.MaxInt}
	for _, l := range lists() {
		for _, from := range ends {
			for _, to := range ends {
				isBetween(t, l, from, to, between(l, from, to))
			}
		}
	}
}

// P9.3: the chapter's examples, ranges that hold all, some or no marks, and ones that begin behind their end.
func TestBetweenExamples(t *testing.T) {
	a, b, c := example[0], example[1], example[2]
	mixed := marks(left(9, 4), right(2, 4), left(5, -3), right(9, 4), left(0, 4), left(2, math.MaxInt), left(2, 4), api.Mark{ID: 9, At: 4, Gravity: 77}, left(1, math.MinInt))
	at4 := marks(mixed[4], mixed[1], mixed[6], mixed[0], mixed[3], mixed[7])
	for _, x := range []struct {
		l        []api.Mark
		from, to int
		want     []api.Mark
	}{
		{example, 0, 3, marks(c, a, b)},
		{example, 0, 0, marks(c)}, {example, 0, 2, marks(c)}, {example, 1, 3, marks(a, b)}, {example, 3, 3, marks(a, b)}, {example, 3, math.MaxInt, marks(a, b)}, {example, math.MinInt, 0, marks(c)},
		{example, math.MinInt, math.MaxInt, marks(c, a, b)}, {example, -1, 4, marks(c, a, b)},
		{example, 1, 2, nil}, {example, 4, 9, nil}, {example, -9, -1, nil}, {example, math.MaxInt, math.MaxInt, nil}, {example, math.MinInt, math.MinInt, nil},
		{example, 3, 0, nil}, {example, 1, 0, nil}, {example, 3, 2, nil}, {example, math.MaxInt, math.MinInt, nil}, {example, 4, -1, nil},
		{nil, math.MinInt, math.MaxInt, nil}, {marks(), 0, 0, nil}, {marks(left(1, 5)), 5, 5, marks(left(1, 5))},
		{marks(right(1, 5), left(2, 5)), 5, 5, marks(right(1, 5), left(2, 5))},
		{mixed, 4, 4, at4}, {mixed, -2, math.MaxInt - 1, at4}, {mixed, -3, 4, append(marks(mixed[2]), at4...)}, {mixed, 5, math.MaxInt, marks(mixed[5])},
		{mixed, math.MinInt, math.MaxInt, slices.Concat(marks(mixed[8], mixed[2]), at4, marks(mixed[5]))}, {mixed, math.MinInt, -4, marks(mixed[8])},
		{marks(left(greatest, 1), left(1<<31, 1), left(1<<31-1, 1), left(1, 1)), 1, 1, marks(left(1, 1), left(1<<31-1, 1), left(1<<31, 1), left(greatest, 1))},
	} {
		isBetween(t, x.l, x.from, x.to, x.want)
	}
}

// P9.4: a mark of each gravity at each position, under ordinary deltas, in normal form and not.
func TestShift(t *testing.T) {
	deltas(func(d []api.Piece) {
		to, out := places(d)
		for part := range slices.Chunk(every(len(to)), most) {
			want := slices.Clone(part)
			for i, m := range part {
				want[i] = moved(to, out, m)
			}
			isShift(t, part, d, want, api.OK)
		}
		isShift(t, nil, d, nil, api.OK)
		isShift(t, marks(), d, nil, api.OK)
	})
}

// P9.4: the chapter's examples, and deltas that insert at, before and behind a mark, and that remove what is around it.
func TestShiftExamples(t *testing.T) {
	pair := func(l, r int) []api.Mark { return marks(left(2, l), right(7, r)) }
	for _, x := range []struct {
		l    []api.Mark
		d    []api.Piece
		want []api.Mark
	}{
		{example, list(retain(3), insert("ab")), marks(left(1, 3), right(5, 5), left(9, 0))},
		{example, list(remove(2), retain(1)), marks(left(1, 1), right(5, 1), left(9, 0))},
		{example, list(retain(3)), example}, {example, list(retain(1), retain(2)), example}, {example, list(retain(9)), example},
		{nil, nil, nil}, {marks(left(1, 0)), nil, marks(left(1, 0))}, {pair(0, 0), nil, pair(0, 0)},

		// Insertions at the marks, before them and behind them.
		{pair(2, 2), list(retain(2), insert("xy"), retain(2)), pair(2, 4)},
		{pair(2, 2), list(retain(1), insert("xy"), retain(3)), pair(4, 4)},
		{pair(2, 2), list(retain(3), insert("xy"), retain(1)), pair(2, 2)},
		{pair(2, 2), list(insert("x"), retain(2), insert("y"), retain(2), insert("z")), pair(3, 4)},
		{pair(2, 2), list(retain(2), insert("x"), insert("y"), retain(2)), pair(2, 4)},
		{pair(0, 0), list(insert("xy"), retain(4)), pair(0, 2)}, {pair(4, 4), list(retain(4), insert("xy")), pair(4, 6)}, {pair(0, 0), list(insert("xy")), pair(0, 2)},

		// Removals before, behind and around them.
		{pair(2, 2), list(remove(2), retain(2)), pair(0, 0)}, {pair(2, 2), list(remove(1), retain(3)), pair(1, 1)}, {pair(2, 2), list(retain(2), remove(2)), pair(2, 2)},
		{pair(2, 2), list(retain(1), remove(2), retain(1)), pair(1, 1)}, {pair(2, 2), list(retain(1), remove(1), remove(1), retain(1)), pair(1, 1)}, {pair(2, 2), list(remove(4)), pair(0, 0)},
		{pair(1, 3), list(retain(2), remove(1), retain(1)), pair(1, 2)},

		// Both: what is inserted in a gap comes behind one mark and before the other one, wherever it is in the gap.
		{pair(2, 2), list(retain(1), remove(2), insert("xyz"), retain(1)), pair(1, 4)}, {pair(2, 2), list(retain(1), insert("xyz"), remove(2), retain(1)), pair(1, 4)}, {pair(2, 2), list(retain(1), remove(1), insert("xyz"), remove(1), retain(1)), pair(1, 4)},
		{pair(2, 2), list(insert("xyz"), remove(4)), pair(0, 3)}, {pair(3, 1), list(retain(1), insert("x"), remove(2), insert("y"), retain(1)), pair(1, 3)},

		// Other marks than these, beside them: IDs play no part.
		{marks(right(1, 2), left(2, 2), right(3, 0), left(greatest, 4)), list(retain(2), insert("x"), retain(2)), marks(right(1, 3), left(2, 2), right(3, 0), left(greatest, 5))},
	} {
		isShift(t, x.l, x.d, x.want, api.OK)
	}
}

// P9.4: deltas whose input length is too short for the marks, and lists that are no sets of marks.
func TestShiftErrors(t *testing.T) {
	isShift(t, example, list(retain(2)), nil, api.ErrRange)
	isShift(t, example, list(retain(2), insert("abc")), nil, api.ErrRange) // only the result is long enough
	isShift(t, example, list(remove(1), retain(1)), nil, api.ErrRange)
	isShift(t, example, nil, nil, api.ErrRange)
	isShift(t, marks(right(1, full+1)), list(retain(full)), nil, api.ErrRange)
	isShift(t, marks(left(1, math.MaxInt)), list(retain(full)), nil, api.ErrRange)
	isShift(t, marks(left(1, 0), left(2, -1)), list(retain(2)), nil, api.ErrRange)
	for _, d := range all(3) {
		in, _ := lengths(d)
		for _, g := range []uint8{api.Left, api.Right} {
			isShift(t, marks(api.Mark{ID: 1, At: in + 1, Gravity: g}), d, nil, api.ErrRange)
			isShift(t, marks(left(1, 0), right(2, in), api.Mark{ID: 3, At: in + 1, Gravity: g}), d, nil, api.ErrRange)
		}
	}
	for _, d := range [][]api.Piece{nil, list(retain(3)), list(retain(1), insert("ab"), remove(8))} {
		in, _ := lengths(d)
		for _, l := range badSets() {
			isShift(t, l, d, nil, checked(in, l))
		}
	}
}

// P9.4 and R2: deltas that delta.Check refuses, before anything about the marks is looked at.
func TestShiftNotValid(t *testing.T) {
	l := append(badSets(), nil, example, numbered(most))
	for _, x := range l {
		for _, p := range wrong {
			isShift(t, x, list(p), nil, api.ErrArg)
			isShift(t, x, list(retain(3), p), nil, api.ErrArg)
			isShift(t, x, list(p, retain(3)), nil, api.ErrArg)
			isShift(t, x, list(p, retain(full+1)), nil, api.ErrArg)
			isShift(t, x, list(retain(full+1), p), nil, api.ErrLong)
		}
		for _, d := range tooLong {
			isShift(t, x, d, nil, api.ErrLong)
		}
	}
	// Then Check: the number of marks, and then mark by mark.
	isShift(t, append(marks(left(1, 9)), make([]api.Mark, most)...), list(retain(1)), nil, api.ErrMarks)
	isShift(t, marks(left(1, 9), left(0, 0)), list(retain(1)), nil, api.ErrRange)
	isShift(t, marks(left(0, 0), left(1, 9)), list(retain(1)), nil, api.ErrArg)
	isShift(t, marks(api.Mark{ID: 1, At: 9, Gravity: 2}), list(retain(1)), nil, api.ErrArg)
}

// P9.4: exactly MaxMarks marks and one more, and deltas of exactly MaxPieces pieces and MaxDelta bytes.
func TestShiftMost(t *testing.T) {
	isShift(t, numbered(most), list(retain(9)), numbered(most), api.OK)
	isShift(t, numbered(most), list(retain(8)), nil, api.ErrRange)
	isShift(t, numbered(most+1), list(retain(9)), nil, api.ErrMarks)
	for _, d := range [][]api.Piece{
		times(api.MaxPieces, retain(2)), times(api.MaxPieces, insert("AB")), times(api.MaxPieces/2, retain(1), insert("AB")), times(api.MaxPieces/4, retain(3), remove(2), insert("ABC"), remove(1)),
		list(retain(full)), list(remove(full)), list(insert(strings.Repeat("A", full)), remove(full)), list(retain(1), remove(full-2), retain(1)), list(retain(full-1), insert("A"), remove(1)),
	} {
		to, out := places(d)
		r := rand.New(rand.NewSource(4))
		l := random(r, len(to), most)
		l[0].At, l[1].At, l[2].At = 0, len(to), len(to)/2
		want := slices.Clone(l)
		for i, m := range l {
			want[i] = moved(to, out, m)
		}
		isShift(t, l, d, want, api.OK)
	}
}
