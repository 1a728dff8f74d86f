package money_test

import (
	"math/big"
	"slices"
	"testing"

	"bullion/api"
	"bullion/money"
)

const top = 1<<64 - 1

// edges are numbers at which sums, products or differences come to an end, and some in between.
var edges = []uint64{
	0, 1, 2, 3, 4, 5, 7, 10, 255, 1000,
	1<<31 - 1, 1 << 31, 1<<32 - 1, 1 << 32, 1<<32 + 1,
	6700417, 65537 * 6700417, top / 3, top/3 + 1, top / 7,
	1<<62 - 1, 1 << 62, 1<<63 - 1, 1 << 63, 1<<63 + 1,
	top - 5, top - 2, top - 1, top,
}

func whole(n uint64) *big.Int { return new(big.Int).SetUint64(n) }

// same holds an answer against what whole numbers say: bad is what is to be answered beside 0 if they leave the range.
func same(t *testing.T, what string, a, b uint64, got uint64, e api.Errno, want *big.Int, bad api.Errno) {
	t.Helper()
	if !want.IsUint64() {
		if got != 0 || e != bad {
			t.Errorf("%s(%d, %d): %d, %d; want 0, %d", what, a, b, got, e, bad)
		}
		return
	}
	if got != want.Uint64() || e != api.OK {
		t.Errorf("%s(%d, %d): %d, %d; want %s, 0", what, a, b, got, e, want)
	}
}

type row struct {
	a, b, want uint64
	e          api.Errno
}

func look(t *testing.T, what string, f func(a, b uint64) (uint64, api.Errno), rows []row) {
	t.Helper()
	for _, r := range rows {
		if got, e := f(r.a, r.b); got != r.want || e != r.e {
			t.Errorf("%s(%d, %d): %d, %d; want %d, %d", what, r.a, r.b, got, e, r.want, r.e)
		}
	}
}

// P1.1: sums.
func TestAdd(t *testing.T) {
	look(t, "Add", money.Add, []row{
		{0, 0, 0, api.OK},
		{2, 3, 5, api.OK},
		{top, 0, top, api.OK},
		{0, top, top, api.OK},
		{top - 1, 1, top, api.OK},
		{1, top - 1, top, api.OK},
		{1 << 63, 1<<63 - 1, top, api.OK},
		{top, 1, 0, api.ErrOver},
		{1, top, 0, api.ErrOver},
		{1 << 63, 1 << 63, 0, api.ErrOver},
		{top, top, 0, api.ErrOver},
	})
}

// P1.1: differences.
func TestSub(t *testing.T) {
	look(t, "Sub", money.Sub, []row{
		{0, 0, 0, api.OK},
		{5, 3, 2, api.OK},
		{5, 5, 0, api.OK},
		{top, 0, top, api.OK},
		{top, top, 0, api.OK},
		{top, top - 1, 1, api.OK},
		{0, 1, 0, api.ErrUnder},
		{5, 6, 0, api.ErrUnder},
		{top - 1, top, 0, api.ErrUnder},
		{0, top, 0, api.ErrUnder},
	})
}

// P1.1: products. The range's end is 3 · 5 · 17 · 257 · 641 · 65537 · 6700417.
func TestMul(t *testing.T) {
	look(t, "Mul", money.Mul, []row{
		{0, 0, 0, api.OK},
		{6, 7, 42, api.OK},
		{0, top, 0, api.OK},
		{top, 0, 0, api.OK},
		{1, top, top, api.OK},
		{top, 1, top, api.OK},
		{3, top / 3, top, api.OK},
		{top / 3, 3, top, api.OK},
		{1<<32 - 1, 1<<32 + 1, top, api.OK},
		{65537 * 6700417, 3 * 5 * 17 * 257 * 641, top, api.OK},
		{65537*6700417 + 1, 3 * 5 * 17 * 257 * 641, 0, api.ErrOver},
		{1 << 32, 1 << 31, 1 << 63, api.OK},
		{1 << 32, 1 << 32, 0, api.ErrOver},
		{1 << 63, 2, 0, api.ErrOver},
		{2, 1 << 63, 0, api.ErrOver},
		{3, top/3 + 1, 0, api.ErrOver},
		{top/3 + 1, 3, 0, api.ErrOver},
		{top, 2, 0, api.ErrOver},
		{top, top, 0, api.ErrOver},
	})
}

// P1.1: all pairs of edges, held against whole numbers.
func TestAgainstWholeNumbers(t *testing.T) {
	for _, a := range edges {
		for _, b := range edges {
			x, y := whole(a), whole(b)
			n, e := money.Add(a, b)
			same(t, "Add", a, b, n, e, new(big.Int).Add(x, y), api.ErrOver)
			n, e = money.Sub(a, b)
			same(t, "Sub", a, b, n, e, new(big.Int).Sub(x, y), api.ErrUnder)
			n, e = money.Mul(a, b)
			same(t, "Mul", a, b, n, e, new(big.Int).Mul(x, y), api.ErrOver)
			n, e = money.Sum(a, b)
			same(t, "Sum", a, b, n, e, new(big.Int).Add(x, y), api.ErrOver)
		}
	}
}

// P1.1: the sum of any number of numbers.
func TestSum(t *testing.T) {
	for _, r := range []struct {
		list []uint64
		want uint64
		e    api.Errno
	}{
		{nil, 0, api.OK},
		{[]uint64{}, 0, api.OK},
		{[]uint64{0}, 0, api.OK},
		{[]uint64{top}, top, api.OK},
		{[]uint64{1, 2, 3}, 6, api.OK},
		{[]uint64{0, 0, top, 0}, top, api.OK},
		{[]uint64{top - 3, 1, 1, 1}, top, api.OK},
		{[]uint64{1, 1, 1, top - 3}, top, api.OK},
		{[]uint64{1 << 62, 1 << 62, 1 << 62, 1<<62 - 1}, top, api.OK},
		{[]uint64{top, 1}, 0, api.ErrOver},
		{[]uint64{1, top}, 0, api.ErrOver},
		{[]uint64{top - 3, 1, 1, 1, 1}, 0, api.ErrOver},
		{[]uint64{1 << 62, 1 << 62, 1 << 62, 1 << 62}, 0, api.ErrOver},
		{[]uint64{1 << 63, 1 << 63, 5}, 0, api.ErrOver}, // it came round to 5
		{[]uint64{top, 1, 0}, 0, api.ErrOver},
		{[]uint64{top, top, 2, top}, 0, api.ErrOver}, // it came round twice
	} {
		if got, e := money.Sum(r.list...); got != r.want || e != r.e {
			t.Errorf("Sum(%v): %d, %d; want %d, %d", r.list, got, e, r.want, r.e)
		}
	}
}

// P1.1: a list that is longer than any limit of api has no other sum.
func TestSumOfMany(t *testing.T) {
	list := make([]uint64, 1<<16)
	for i := range list {
		list[i] = 1 << 48
	}
	if got, e := money.Sum(list...); got != 0 || e != api.ErrOver {
		t.Errorf("2^64: %d, %d", got, e)
	}
	list[1<<15]--
	if got, e := money.Sum(list...); got != top || e != api.OK {
		t.Errorf("2^64 - 1: %d, %d", got, e)
	}
}

// P1.1, rule 4: a list that is handed in stays as it is; what lies behind its length isn't summed.
func TestSumLeavesItsList(t *testing.T) {
	all := []uint64{4, 5, 6, top, 7}
	old := slices.Clone(all)
	if got, e := money.Sum(all[:3]...); got != 15 || e != api.OK {
		t.Errorf("the first three: %d, %d", got, e)
	}
	if got, e := money.Sum(all...); got != 0 || e != api.ErrOver {
		t.Errorf("all: %d, %d", got, e)
	}
	if !slices.Equal(all, old) {
		t.Errorf("the list was %v, is %v", old, all)
	}
}

// P1.2: a rise, below its end, at it, beyond it, and from above it.
func TestRise(t *testing.T) {
	for _, r := range []struct{ a, by, most, want uint64 }{
		{7, 2, 10, 9},
		{7, 3, 10, 10},
		{7, 4, 10, 10},
		{7, 5, 10, 10},
		{7, 0, 10, 7},
		{10, 0, 10, 10},
		{10, 1, 10, 10},
		{11, 0, 10, 10},
		{12, 1, 10, 10},
		{0, 0, 0, 0},
		{0, 1, 0, 0},
		{5, 0, 0, 0},
		{top, 0, 10, 10},
		{top, 1, 5, 5},
		{top, top, 5, 5},
		{0, top, top, top},
		{top, 0, top, top},
		{top - 1, 1, top, top},
		{top, 1, top, top},
		{1 << 63, 1 << 63, top, top},
		{top, top, top, top},
		{top, 1, 0, 0},
		{top - 2, 1, top, top - 1},
	} {
		if got := money.Rise(r.a, r.by, r.most); got != r.want {
			t.Errorf("Rise(%d, %d, %d): %d; want %d", r.a, r.by, r.most, got, r.want)
		}
	}
}

// P1.2: a fall, above 0, to it, and below it.
func TestFall(t *testing.T) {
	for _, r := range []struct{ a, by, want uint64 }{
		{9, 4, 5},
		{9, 0, 9},
		{9, 8, 1},
		{9, 9, 0},
		{9, 10, 0},
		{3, 5, 0},
		{0, 0, 0},
		{0, 1, 0},
		{0, top, 0},
		{top - 1, top, 0},
		{top, top, 0},
		{top, top - 1, 1},
		{top, 0, top},
	} {
		if got := money.Fall(r.a, r.by); got != r.want {
			t.Errorf("Fall(%d, %d): %d; want %d", r.a, r.by, got, r.want)
		}
	}
}

// P1.2: a wish below, at and above what there is.
func TestTake(t *testing.T) {
	for _, r := range []struct{ a, wish, got, left uint64 }{
		{10, 4, 4, 6},
		{10, 0, 0, 10},
		{10, 9, 9, 1},
		{10, 10, 10, 0},
		{10, 11, 10, 0},
		{10, top, 10, 0},
		{0, 0, 0, 0},
		{0, 1, 0, 0},
		{0, top, 0, 0},
		{top, 1, 1, top - 1},
		{top, top - 1, top - 1, 1},
		{top, top, top, 0},
		{top - 1, top, top - 1, 0},
	} {
		if got, left := money.Take(r.a, r.wish); got != r.got || left != r.left {
			t.Errorf("Take(%d, %d): %d, %d; want %d, %d", r.a, r.wish, got, left, r.got, r.left)
		}
	}
}

// P1.2: all edges, held against whole numbers.
func TestEndsAgainstWholeNumbers(t *testing.T) {
	for _, a := range edges {
		for _, by := range edges {
			less := new(big.Int).Sub(whole(a), whole(by))
			if less.Sign() < 0 {
				less.SetInt64(0)
			}
			if got := money.Fall(a, by); got != less.Uint64() {
				t.Errorf("Fall(%d, %d): %d; want %s", a, by, got, less)
			}
			more := new(big.Int).Add(whole(a), whole(by))
			for _, most := range edges {
				want := most
				if more.Cmp(whole(most)) < 0 {
					want = more.Uint64()
				}
				if got := money.Rise(a, by, most); got != want {
					t.Errorf("Rise(%d, %d, %d): %d; want %d", a, by, most, got, want)
				}
			}
		}
	}
}

// P1.3: what is taken and what is left are together what was.
func TestTakeLosesNothing(t *testing.T) {
	for _, a := range edges {
		for _, wish := range edges {
			got, left := money.Take(a, wish)
			if sum, e := money.Add(got, left); sum != a || e != api.OK {
				t.Errorf("Take(%d, %d): %d, %d", a, wish, got, left)
			}
			if got > wish || got < wish && left != 0 {
				t.Errorf("Take(%d, %d): %d, not as much as may be", a, wish, got)
			}
		}
	}
}

// P1.3: a fall undoes a rise that came to no end.
func TestFallUndoesRise(t *testing.T) {
	undone := 0
	for _, a := range edges {
		for _, by := range edges {
			for _, most := range edges {
				if new(big.Int).Add(whole(a), whole(by)).Cmp(whole(most)) > 0 {
					continue
				}
				undone++
				if got := money.Fall(money.Rise(a, by, most), by); got != a {
					t.Errorf("Fall(Rise(%d, %d, %d), %d): %d", a, by, most, by, got)
				}
			}
		}
	}
	if undone == 0 {
		t.Error("no rise came to no end")
	}
}

// The chapter's examples.
func TestExamples(t *testing.T) {
	if n, e := money.Sum(); n != 0 || e != api.OK {
		t.Errorf("Sum(): %d, %d", n, e)
	}
	if n := money.Rise(7, 5, 10); n != 10 {
		t.Errorf("Rise(7, 5, 10): %d", n)
	}
	if n := money.Rise(12, 1, 10); n != 10 {
		t.Errorf("Rise(12, 1, 10): %d", n)
	}
	if n := money.Fall(3, 5); n != 0 {
		t.Errorf("Fall(3, 5): %d", n)
	}
	if got, left := money.Take(10, 4); got != 4 || left != 6 {
		t.Errorf("Take(10, 4): %d, %d", got, left)
	}
}
