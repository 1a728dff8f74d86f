package root_test

import (
	"math/big"
	"slices"
	"testing"

	"bullion/root"
)

const (
	top      = 1<<64 - 1
	greatest = 1<<32 - 1           // the greatest root of 64 bits
	last     = greatest * greatest // the greatest square of 64 bits
)

// roots are roots whose squares are looked at from all sides: all bits, what is around them, all ones from below and from above, and some in between.
func roots() []uint64 {
	list := []uint64{0, 5, 6, 7, 10, 11, 99, 1000, 46340, 46341, 65537, 0xaaaaaaaa, 0x55555555, 3037000499, 3037000500, 4000000007, greatest - 2, greatest - 1, greatest}
	for i := range 32 {
		bit := uint64(1) << i
		list = append(list, bit-1, bit, bit+1, greatest-bit, greatest-(bit-1))
	}
	for r := uint64(1); r < greatest; r += 1299709 {
		list = append(list, r)
	}
	slices.Sort(list)
	return slices.Compact(list)
}

// numbers are the squares of roots, what is around them, half way on to the next ones, and the ends of words, rising.
func numbers() []uint64 {
	list := []uint64{1<<31 - 1, 1 << 31, 1<<32 - 1, 1 << 32, 1<<62 + 1, 1<<63 - 1, 1 << 63, 1<<63 + 1, top - 2, top - 1, top}
	for _, r := range roots() {
		list = append(list, r*r, r*r+1, r*r+r, r*r+r+1, r*r+2*r)
		if r > 0 {
			list = append(list, r*r-1)
		}
	}
	slices.Sort(list)
	return slices.Compact(list)
}

type row struct {
	n, root      uint64
	square       bool
	below, above uint64
}

// look asks everything of a row's number.
func look(t *testing.T, rows ...row) {
	t.Helper()
	for _, r := range rows {
		if got := root.Root(r.n); got != r.root {
			t.Errorf("Root(%d): %d; want %d", r.n, got, r.root)
		}
		if got := root.Square(r.n); got != r.square {
			t.Errorf("Square(%d): %t", r.n, got)
		}
		if below, above := root.Near(r.n); below != r.below || above != r.above {
			t.Errorf("Near(%d): %d, %d; want %d, %d", r.n, below, above, r.below, r.above)
		}
	}
}

// truth is a number's row, worked out with whole numbers.
func truth(n uint64) row {
	whole := new(big.Int).SetUint64(n)
	r := new(big.Int).Sqrt(whole)
	below := new(big.Int).Sub(whole, new(big.Int).Mul(r, r))
	next := new(big.Int).Add(r, big.NewInt(1))
	next.Mul(next, next)
	want := row{n: n, root: r.Uint64(), square: below.Sign() == 0, below: below.Uint64()}
	if next.IsUint64() {
		want.above = next.Uint64() - n
	}
	return want
}

// P3.1, P3.2: 0 and the first numbers.
func TestFirstNumbers(t *testing.T) {
	look(t,
		row{0, 0, true, 0, 1},
		row{1, 1, true, 0, 3},
		row{2, 1, false, 1, 2},
		row{3, 1, false, 2, 1},
		row{4, 2, true, 0, 5},
		row{5, 2, false, 1, 4},
		row{6, 2, false, 2, 3},
		row{7, 2, false, 3, 2},
		row{8, 2, false, 4, 1},
		row{9, 3, true, 0, 7},
		row{10, 3, false, 1, 6},
		row{15, 3, false, 6, 1},
		row{16, 4, true, 0, 9},
		row{17, 4, false, 1, 8},
		row{99, 9, false, 18, 1},
		row{100, 10, true, 0, 21},
		row{101, 10, false, 1, 20},
	)
}

// P3.1, P3.2: all numbers up to a square, gone through from square to square.
func TestAllSmallNumbers(t *testing.T) {
	for r := uint64(0); r < 300; r++ {
		next := (r + 1) * (r + 1)
		for n := r * r; n < next; n++ {
			look(t, row{n, r, n == r*r, n - r*r, next - n})
		}
	}
}

// P3.1, P3.2: numbers of which the square, or the next one, is at the end of a word.
func TestEndsOfWords(t *testing.T) {
	look(t,
		row{1<<32 - 1, 1<<16 - 1, false, 1<<17 - 2, 1},
		row{1 << 32, 1 << 16, true, 0, 1<<17 + 1},
		row{1<<32 + 1, 1 << 16, false, 1, 1 << 17},
		row{1<<62 - 1, 1<<31 - 1, false, 1<<32 - 2, 1},
		row{1 << 62, 1 << 31, true, 0, 1<<32 + 1},
		row{1<<62 + 1, 1 << 31, false, 1, 1 << 32},
		row{1<<63 - 1, 3037000499, false, 1<<63 - 1 - 3037000499*3037000499, 3037000500*3037000500 - (1<<63 - 1)},
		row{1 << 63, 3037000499, false, 1<<63 - 3037000499*3037000499, 3037000500*3037000500 - 1<<63},
	)
}

// P3.1, P3.2: the greatest square, the numbers around it, and 2^64 - 1: the next square is 2^64.
func TestGreatestSquare(t *testing.T) {
	const before = (greatest - 1) * (greatest - 1)
	look(t,
		row{before - 1, greatest - 2, false, before - 1 - (greatest-2)*(greatest-2), 1},
		row{before, greatest - 1, true, 0, last - before},
		row{before + 1, greatest - 1, false, 1, last - before - 1},
		row{last - 2, greatest - 1, false, last - 2 - before, 2},
		row{last - 1, greatest - 1, false, last - 1 - before, 1},
		row{last, greatest, true, 0, 0},
		row{last + 1, greatest, false, 1, 0},
		row{last + 2, greatest, false, 2, 0},
		row{top - 1, greatest, false, top - 1 - last, 0},
		row{top, greatest, false, top - last, 0},
	)
	if last != 1<<64-1<<33+1 {
		t.Error("not (2^32 - 1)^2")
	}
}

// P3.1, P3.2: squares of all lengths, what is around them and in between, held against whole numbers.
func TestAgainstWholeNumbers(t *testing.T) {
	for _, n := range numbers() {
		look(t, truth(n))
	}
}

// P3.1: a root's square is not above the number, and the next one's is.
func TestRootIsTheGreatest(t *testing.T) {
	for _, n := range numbers() {
		whole, r := new(big.Int).SetUint64(n), new(big.Int).SetUint64(root.Root(n))
		if new(big.Int).Mul(r, r).Cmp(whole) > 0 {
			t.Errorf("Root(%d): %s, whose square is above", n, r)
		}
		r.Add(r, big.NewInt(1))
		if r.Mul(r, r).Cmp(whole) <= 0 {
			t.Errorf("Root(%d): %d, and the next one's square is not above", n, root.Root(n))
		}
	}
}

// P3.1: between a square and the next one there is no other.
func TestSquareOnlyOfRoots(t *testing.T) {
	for _, r := range roots() {
		if !root.Square(r * r) {
			t.Errorf("Square(%d · %d): false", r, r)
		}
		if r == 0 {
			continue
		}
		for _, n := range []uint64{r*r + 1, r*r + r, r*r + 2*r} {
			if root.Square(n) {
				t.Errorf("Square(%d): true, between the squares of %d and %d", n, r, r+1)
			}
		}
	}
}

// P3.2: both squares are where Near says, and there is one above wherever it is one word.
func TestNearPointsAtSquares(t *testing.T) {
	for _, n := range numbers() {
		below, above := root.Near(n)
		if below > n || !root.Square(n-below) {
			t.Errorf("Near(%d): %d, below which is no square", n, below)
		}
		if (above == 0) != (n >= last) {
			t.Errorf("Near(%d): %d above", n, above)
		}
		if above > top-n || above > 0 && root.Root(n+above) != root.Root(n)+1 || above > 0 && !root.Square(n+above) {
			t.Errorf("Near(%d): %d, above which is not the next square", n, above)
		}
	}
}

// P3.3: a root never falls as its number rises.
func TestRootNeverFalls(t *testing.T) {
	list := numbers()
	for i, n := range list[1:] {
		if before, now := root.Root(list[i]), root.Root(n); now < before {
			t.Errorf("Root(%d): %d; but Root(%d): %d", n, now, list[i], before)
		}
	}
	for n := uint64(0); n < 1<<16; n++ {
		if root.Root(n+1) < root.Root(n) {
			t.Errorf("Root(%d) is below Root(%d)", n+1, n)
		}
	}
}

// P3.3: the root of a square is what was squared.
func TestRootOfSquare(t *testing.T) {
	for _, r := range roots() {
		if got := root.Root(r * r); got != r {
			t.Errorf("Root(%d · %d): %d", r, r, got)
		}
	}
}

// The chapter's examples.
func TestExamples(t *testing.T) {
	if r := root.Root(15); r != 3 {
		t.Errorf("Root(15): %d", r)
	}
	if r := root.Root(1<<64 - 1); r != 1<<32-1 {
		t.Errorf("Root(2^64 - 1): %d", r)
	}
	if below, above := root.Near(10); below != 1 || above != 6 {
		t.Errorf("Near(10): %d, %d", below, above)
	}
}
