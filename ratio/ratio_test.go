package ratio_test

import (
	"math/big"
	"testing"

	"bullion/api"
	"bullion/ratio"
)

const top = 1<<64 - 1

// edges are numbers, rising, whose products and fractions come to an end of 64 or of 128 bits, and some in between.
var edges = []uint64{
	0, 1, 2, 3, 4, 5, 6, 7, 10, 255, 1000, 10007,
	1<<31 - 1, 1 << 31, 1<<32 - 1, 1 << 32, 1<<32 + 1,
	6700417, 65537 * 6700417, top / 7, top / 3, top/3 + 1,
	1<<62 - 1, 1 << 62, 3 << 61, 1<<63 - 1, 1 << 63, 1<<63 + 1, 3 << 62,
	top - 5, top - 2, top - 1, top,
}

func whole(n uint64) *big.Int { return new(big.Int).SetUint64(n) }

func product(a, b uint64) *big.Int { return new(big.Int).Mul(whole(a), whole(b)) }

// number is a whole number as it is to be answered: of 64 bits, or refused.
func number(n *big.Int) (uint64, api.Errno) {
	if !n.IsUint64() {
		return 0, api.ErrOver
	}
	return n.Uint64(), api.OK
}

type row struct {
	a, b, c uint64
	want    uint64
	e       api.Errno
}

func look(t *testing.T, what string, f func(a, b, c uint64) (uint64, api.Errno), rows []row) {
	t.Helper()
	for _, r := range rows {
		if got, e := f(r.a, r.b, r.c); got != r.want || e != r.e {
			t.Errorf("%s(%d, %d, %d): %d, %d; want %d, %d", what, r.a, r.b, r.c, got, e, r.want, r.e)
		}
	}
}

// P2.1: fractions, down.
func TestDown(t *testing.T) {
	look(t, "Down", ratio.Down, []row{
		{7, 1, 2, 3, api.OK},
		{6, 1, 2, 3, api.OK},
		{6, 7, 5, 8, api.OK},
		{1, 1, 2, 0, api.OK},
		{0, 7, 2, 0, api.OK},
		{7, 0, 2, 0, api.OK},
		{top, 1, 1, top, api.OK},
		{1, top, top, 1, api.OK},
		{1 << 63, 6, 4, 3 << 62, api.OK},
		{top, top, top, top, api.OK},
		{top, top - 1, top, top - 1, api.OK},
		{1 << 63, 1 << 63, 1 << 63, 1 << 63, api.OK},
		{1 << 32, 1 << 32, 2, 1 << 63, api.OK},
		{1 << 32, 1 << 32, 3, top / 3, api.OK},
		{7, top, 8, top - top/8 - 1, api.OK}, // all but an eighth, up
		{0, 0, 0, 0, api.ErrZero},
		{7, 1, 0, 0, api.ErrZero},
		{0, top, 0, 0, api.ErrZero},
		{top, top, 0, 0, api.ErrZero}, // not ErrOver
		{1 << 32, 1 << 32, 1, 0, api.ErrOver},
		{top, 2, 1, 0, api.ErrOver},
		{1 << 63, 4, 2, 0, api.ErrOver},
		{top, top, top - 1, 0, api.ErrOver},
		{top, top, 1, 0, api.ErrOver},
	})
}

// P2.1: fractions, up.
func TestUp(t *testing.T) {
	look(t, "Up", ratio.Up, []row{
		{7, 1, 2, 4, api.OK},
		{6, 1, 2, 3, api.OK},
		{6, 7, 5, 9, api.OK},
		{1, 1, 2, 1, api.OK},
		{1, 1, top, 1, api.OK},
		{0, 7, 2, 0, api.OK},
		{7, 0, 2, 0, api.OK},
		{top, 1, 1, top, api.OK},
		{1 << 63, 6, 4, 3 << 62, api.OK},
		{1 << 63, 7, 4, 7 << 61, api.OK},
		{top, top, top, top, api.OK},
		{1 << 32, 1 << 32, 3, top/3 + 1, api.OK},
		{0, 0, 0, 0, api.ErrZero},
		{7, 1, 0, 0, api.ErrZero},
		{top, top, 0, 0, api.ErrZero},
		{1 << 32, 1 << 32, 1, 0, api.ErrOver},
		{top, 2, 1, 0, api.ErrOver},
		{top, top, top - 1, 0, api.ErrOver},
	})
}

// P2.1: the last fraction, 2^64 - 1, and what is beyond it: (2^64 - 1) · 2 + 1 by 2 is still the last one down, and beyond it up.
func TestLastFraction(t *testing.T) {
	const third = top / 3 // a third of 2^64 - 1, which is odd
	last := []row{
		{top, 2, 2, top, api.OK},
		{top, 3, 3, top, api.OK},
		{third, 6, 2, top, api.OK},
		{third, 3 << 60, 1 << 60, top, api.OK},
	}
	look(t, "Down", ratio.Down, last)
	look(t, "Up", ratio.Up, last)
	// 2^65 - 1 is 31 · 1190112520884487201.
	between := row{31, 1190112520884487201, 2, top, api.OK}
	if p := product(between.a, between.b); p.Cmp(new(big.Int).Add(product(2, top), whole(1))) != 0 {
		t.Fatal("not 2^65 - 1:", p)
	}
	look(t, "Down", ratio.Down, []row{between})
	if n, rest, e := ratio.Over(between.a, between.b, 2); n != top || rest != 1 || e != api.OK {
		t.Errorf("Over, by 2: %d, %d, %d", n, rest, e)
	}
	beyond := []row{
		{1 << 63, 2, 1, 0, api.ErrOver},
		{1 << 63, 4, 2, 0, api.ErrOver},
		{1 << 62, 1 << 63, 1 << 61, 0, api.ErrOver},
	}
	look(t, "Down", ratio.Down, beyond)
	between.want, between.e = 0, api.ErrOver
	look(t, "Up", ratio.Up, append(beyond, between))
}

// P2.1: fractions, and what is left.
func TestOver(t *testing.T) {
	for _, r := range []struct {
		a, b, c, n, rest uint64
		e                api.Errno
	}{
		{7, 1, 2, 3, 1, api.OK},
		{6, 1, 2, 3, 0, api.OK},
		{6, 7, 5, 8, 2, api.OK},
		{1, 1, 2, 0, 1, api.OK},
		{0, 0, 9, 0, 0, api.OK},
		{top, 1, top, 1, 0, api.OK},
		{top - 1, 1, top, 0, top - 1, api.OK},
		{1 << 32, 1 << 32, 3, top / 3, 1, api.OK},
		{1 << 63, 6, 4, 3 << 62, 0, api.OK},
		{top, top, top, top, 0, api.OK},
		{top - 1, top - 1, top, top - 2, 1, api.OK},
		{7, 1, 0, 0, 0, api.ErrZero},
		{0, 0, 0, 0, 0, api.ErrZero},
		{top, top, 0, 0, 0, api.ErrZero},
		{1 << 63, 2, 1, 0, 0, api.ErrOver},
		{1 << 32, 1<<32 + 1, 1, 0, 0, api.ErrOver},
		{top, top, top - 1, 0, 0, api.ErrOver},
	} {
		if n, rest, e := ratio.Over(r.a, r.b, r.c); n != r.n || rest != r.rest || e != r.e {
			t.Errorf("Over(%d, %d, %d): %d, %d, %d; want %d, %d, %d", r.a, r.b, r.c, n, rest, e, r.n, r.rest, r.e)
		}
	}
}

// P2.1: all triples of edges, held against whole numbers.
func TestFractionsAgainstWholeNumbers(t *testing.T) {
	for _, a := range edges {
		for _, b := range edges {
			for _, c := range edges[1:] {
				floor, left := new(big.Int).QuoRem(product(a, b), whole(c), new(big.Int))
				n, e := number(floor)
				rest := uint64(0)
				if e == api.OK {
					rest = left.Uint64()
				}
				look(t, "Down", ratio.Down, []row{{a, b, c, n, e}})
				if got, r, f := ratio.Over(a, b, c); got != n || r != rest || f != e {
					t.Errorf("Over(%d, %d, %d): %d, %d, %d; want %d, %d, %d", a, b, c, got, r, f, n, rest, e)
				}
				if left.Sign() > 0 {
					n, e = number(floor.Add(floor, whole(1)))
				}
				look(t, "Up", ratio.Up, []row{{a, b, c, n, e}})
			}
		}
	}
}

// P2.1: nothing is divided by 0.
func TestByZero(t *testing.T) {
	for _, a := range edges {
		for _, b := range edges {
			refused := []row{{a, b, 0, 0, api.ErrZero}}
			look(t, "Down", ratio.Down, refused)
			look(t, "Up", ratio.Up, refused)
			if n, rest, e := ratio.Over(a, b, 0); n != 0 || rest != 0 || e != api.ErrZero {
				t.Errorf("Over(%d, %d, 0): %d, %d, %d", a, b, n, rest, e)
			}
		}
	}
}

// P2.2: products that are the same, that part by one, and that part in one word only.
func TestLess(t *testing.T) {
	for _, r := range []struct {
		a, b, c, d uint64
		want       bool
	}{
		{0, 0, 0, 0, false},
		{0, top, top, 0, false},
		{0, top, 1, 1, true},
		{1, 1, 0, top, false},
		{2, 6, 3, 4, false},
		{3, 4, 2, 6, false},
		{3, 5, 4, 4, true},
		{4, 4, 3, 5, false},
		{5, 5, 4, 6, false},
		{4, 6, 5, 5, true},
		{1 << 32, 1 << 32, 1 << 31, 1 << 33, false},
		{1<<32 - 1, 1<<32 + 1, 1 << 32, 1 << 32, true},
		{1 << 32, 1 << 32, 1<<32 - 1, 1<<32 + 1, false},
		{1 << 32, 1 << 32, 1, top, false},
		{1, top, 1 << 32, 1 << 32, true},
		{top, top, top, top, false},
		{top, top - 2, top - 1, top - 1, true},
		{top - 1, top - 1, top, top - 2, false},
		{top, top - 1, top, top, true},
		{top, top, top - 1, top, false},
		{31, 1190112520884487201, 2, top, false}, // one above
		{2, top, 31, 1190112520884487201, true},
		{1 << 63, 2, 1 << 63, 3, true},
		{1 << 63, 3, 1 << 63, 2, false},
	} {
		if got := ratio.Less(r.a, r.b, r.c, r.d); got != r.want {
			t.Errorf("Less(%d, %d, %d, %d): %t", r.a, r.b, r.c, r.d, got)
		}
	}
}

// P2.2: all fours of edges, held against whole numbers.
func TestLessAgainstWholeNumbers(t *testing.T) {
	type pair struct {
		a, b uint64
		p    *big.Int
	}
	var pairs []pair
	for _, a := range edges {
		for _, b := range edges {
			pairs = append(pairs, pair{a, b, product(a, b)})
		}
	}
	for _, x := range pairs {
		for _, y := range pairs {
			if got := ratio.Less(x.a, x.b, y.a, y.b); got != (x.p.Cmp(y.p) < 0) {
				t.Errorf("Less(%d, %d, %d, %d): %t", x.a, x.b, y.a, y.b, got)
			}
		}
	}
}

// P2.2: below, exactly, and just above two thirds; of nothing there is no more than two thirds.
func TestTwo(t *testing.T) {
	for _, r := range []struct {
		present, active uint64
		want            bool
	}{
		{0, 0, false},
		{1, 0, false},
		{top, 0, false},
		{0, 1, false},
		{1, 1, true},
		{1, 2, false},
		{2, 2, true},
		{1, 3, false},
		{2, 3, false},
		{3, 3, true},
		{2, 4, false},
		{3, 4, true},
		{3, 5, false},
		{4, 5, true},
		{4, 6, false},
		{5, 6, true},
		{9, 3, true},
		{66, 100, false},
		{67, 100, true},
		{top / 3 * 2, top, false},
		{top/3*2 + 1, top, true},
		{top/3*2 - 1, top, false},
		{top / 3 * 2, top - 1, true},
		{1 << 63, 3 << 62, false},
		{1<<63 + 1, 3 << 62, true},
		{1 << 63, 3<<62 - 1, true},
		{top/3 + 1, 1, true}, // three times as many came round to 2
		{1, 1 << 63, false},  // twice as many came round to 0
		{top, top, true},
		{top - 1, top, true},
	} {
		if got := ratio.Two(r.present, r.active); got != r.want {
			t.Errorf("Two(%d, %d): %t", r.present, r.active, got)
		}
	}
}

// P2.2: all pairs of edges, held against whole numbers.
func TestTwoAgainstWholeNumbers(t *testing.T) {
	for _, present := range edges {
		for _, active := range edges {
			want := active > 0 && product(3, present).Cmp(product(2, active)) > 0
			if got := ratio.Two(present, active); got != want {
				t.Errorf("Two(%d, %d): %t", present, active, got)
			}
		}
	}
}

// notBelow says whether an answer is no smaller than one ahead of it; what is refused is above all numbers.
func notBelow(n uint64, e api.Errno, before uint64, beforeE api.Errno) bool {
	if e == api.ErrOver || beforeE == api.ErrOver {
		return e == api.ErrOver
	}
	return n >= before
}

// P2.3: a fraction never falls as a or b rises.
func TestFractionsRise(t *testing.T) {
	rising := []uint64{0, 1, 2, 3, 9, 10, 11, 1 << 32, 1<<63 - 1, 1 << 63, 1<<63 + 1, top - 1, top}
	for _, f := range []func(a, b, c uint64) (uint64, api.Errno){ratio.Down, ratio.Up} {
		for _, b := range edges {
			for _, c := range edges[1:] {
				for i, a := range rising[1:] {
					n, e := f(rising[i], b, c)
					if m, g := f(a, b, c); !notBelow(m, g, n, e) {
						t.Errorf("%d · %d by %d: %d, %d; but of %d: %d, %d", a, b, c, m, g, rising[i], n, e)
					}
					n, e = f(b, rising[i], c)
					if m, g := f(b, a, c); !notBelow(m, g, n, e) {
						t.Errorf("%d · %d by %d: %d, %d; but of %d: %d, %d", b, a, c, m, g, rising[i], n, e)
					}
				}
			}
		}
	}
}

// P2.3: more than two thirds is more than a half, and more than two thirds of what is less.
func TestTwoThirdsOfLess(t *testing.T) {
	seen := 0
	for _, present := range edges {
		for _, active := range edges {
			if !ratio.Two(present, active) {
				continue
			}
			seen++
			if !ratio.Less(1, active, 2, present) {
				t.Errorf("%d is more than two thirds of %d, and not more than a half", present, active)
			}
			for _, less := range append([]uint64{active - 1, active/2 + 1}, edges...) {
				if less > 0 && less < active && !ratio.Two(present, less) {
					t.Errorf("%d is more than two thirds of %d, and not of %d", present, active, less)
				}
			}
		}
	}
	if seen == 0 {
		t.Error("nothing is more than two thirds")
	}
}

// The chapter's examples.
func TestExamples(t *testing.T) {
	look(t, "Down", ratio.Down, []row{{7, 1, 2, 3, api.OK}, {1 << 63, 6, 4, 3 * (1 << 62), api.OK}})
	look(t, "Up", ratio.Up, []row{{7, 1, 2, 4, api.OK}})
	if ratio.Two(2, 3) || !ratio.Two(3, 4) || ratio.Two(1, 0) {
		t.Error("Two")
	}
}
