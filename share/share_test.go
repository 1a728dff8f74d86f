package share_test

import (
	"math"
	"math/big"
	"slices"
	"testing"

	"bullion/api"
	"bullion/share"
)

const top = 1<<64 - 1

// totals are sums that are shared out: none, few, and those at which products and words come to an end.
var totals = []uint64{
	0, 1, 2, 3, 7, 9, 10, 100, 255, 9999, 10000, 10001,
	1<<32 - 1, 1 << 32, 1 << 62, 1<<63 - 1, 1 << 63, top/2 + 2, top - 1, top,
}

func whole(n uint64) *big.Int { return new(big.Int).SetUint64(n) }

// many is a list of n numbers, all the same.
func many(n int, each uint64) []uint64 { return slices.Repeat([]uint64{each}, n) }

// rising is a list of the numbers from 0 up to n, n left out.
func rising(n int) []uint64 {
	list := make([]uint64, n)
	for i := range list {
		list[i] = uint64(i)
	}
	return list
}

// weighed are lists of weights that are together at most 2^64 - 1.
func weighed() [][]uint64 {
	return [][]uint64{
		nil,
		{},
		{0},
		{0, 0, 0},
		{1},
		{top},
		{1, 1, 1},
		{0, 1, 1, 1},
		{1, 0, 1, 0, 1, 0},
		{0, 0, 0, 5},
		{1, 2, 3, 4},
		{4, 3, 2, 1},
		{20, 30},
		{3, 3, 2, 5, 5, 0, 1},
		{1, 1 << 32, 1 << 62},
		{1 << 63, 1<<63 - 1},
		{1<<63 - 1, 0, 1 << 63},
		{1, top - 1},
		{top - 1, 1},
		{1, top - 2, 1},
		{0, top, 0},
		many(api.MaxWeights, 0),
		many(api.MaxWeights, 1),
		many(api.MaxWeights, top/api.MaxWeights),
		append(many(api.MaxWeights-1, 1), top-(api.MaxWeights-1)),
		append(many(api.MaxWeights-1, 0), 1),
		rising(api.MaxWeights),
		rising(100),
	}
}

// refused are lists of too many weights, or of weights that are together above 2^64 - 1.
func refused() [][]uint64 {
	return [][]uint64{
		many(api.MaxWeights+1, 0),
		many(api.MaxWeights+1, 1),
		many(2*api.MaxWeights, 1),
		many(api.MaxWeights+1, top),
		append(many(api.MaxWeights, 0), 7),
		{top, 1},
		{1, top},
		{top, 0, 1},
		{1 << 63, 1 << 63},
		{1 << 63, 1 << 63, 5}, // it came round to 5
		{top, 1, top, 1},      // it came round to 0
		{top - 2, 1, 1, 1},
		many(api.MaxWeights, 1<<56),
		many(api.MaxWeights, top),
	}
}

// together is what weights are, and how many of them aren't 0.
func together(weights []uint64) (sum *big.Int, some int) {
	sum = new(big.Int)
	for _, w := range weights {
		sum.Add(sum, whole(w))
		if w > 0 {
			some++
		}
	}
	return sum, some
}

// truth is what is shared out, worked out with whole numbers.
func truth(total uint64, weights []uint64) (parts []uint64, rest uint64) {
	sum, _ := together(weights)
	left := whole(total)
	for _, w := range weights {
		part := new(big.Int)
		if sum.Sign() > 0 {
			part.Mul(whole(total), whole(w))
			part.Quo(part, sum)
		}
		left.Sub(left, part)
		parts = append(parts, part.Uint64())
	}
	return parts, left.Uint64()
}

func lookSplit(t *testing.T, total uint64, weights, parts []uint64, rest uint64) {
	t.Helper()
	if got, r, e := share.Split(total, weights); !slices.Equal(got, parts) || r != rest || e != api.OK {
		t.Errorf("Split(%d, %v): %v, %d, %d; want %v, %d, 0", total, weights, got, r, e, parts, rest)
	}
}

func lookSpread(t *testing.T, total uint64, weights, parts []uint64) {
	t.Helper()
	if got, e := share.Spread(total, weights); !slices.Equal(got, parts) || e != api.OK {
		t.Errorf("Spread(%d, %v): %v, %d; want %v, 0", total, weights, got, e, parts)
	}
}

// P4.1: what weights are together, as many as may be.
func TestWhole(t *testing.T) {
	for _, r := range []struct {
		weights []uint64
		want    uint64
	}{
		{nil, 0},
		{[]uint64{}, 0},
		{[]uint64{0}, 0},
		{[]uint64{0, 0, 7, 0}, 7},
		{[]uint64{20, 30}, 50},
		{[]uint64{top}, top},
		{[]uint64{top, 0}, top},
		{[]uint64{0, top}, top},
		{[]uint64{top - 1, 1}, top},
		{[]uint64{1 << 63, 1<<63 - 1}, top},
		{[]uint64{1 << 62, 1 << 62, 1 << 62, 1<<62 - 1}, top},
		{many(api.MaxWeights-1, 2), 2 * (api.MaxWeights - 1)},
		{many(api.MaxWeights, 2), 2 * api.MaxWeights},
		{many(api.MaxWeights, 1<<56-1), top - (api.MaxWeights - 1)},
		{append(many(api.MaxWeights-1, 1<<56), 1<<56-1), top},
	} {
		if got, e := share.Whole(r.weights); got != r.want || e != api.OK {
			t.Errorf("Whole(%v): %d, %d; want %d, 0", r.weights, got, e, r.want)
		}
	}
	for _, weights := range weighed() {
		want, _ := together(weights)
		if got, e := share.Whole(weights); whole(got).Cmp(want) != 0 || e != api.OK {
			t.Errorf("Whole(%v): %d, %d; want %s, 0", weights, got, e, want)
		}
	}
}

// P4.1, P4.2, P4.3: one weight too many, and one too much; whatever the total is, and ahead of a whole of 0.
func TestWeightsRefused(t *testing.T) {
	for _, weights := range refused() {
		if got, e := share.Whole(weights); got != 0 || e != api.ErrWeights {
			t.Errorf("Whole(%v): %d, %d", weights, got, e)
		}
		for _, total := range totals {
			if parts, rest, e := share.Split(total, weights); len(parts) != 0 || rest != 0 || e != api.ErrWeights {
				t.Errorf("Split(%d, %v): %v, %d, %d", total, weights, parts, rest, e)
			}
			if parts, e := share.Spread(total, weights); len(parts) != 0 || e != api.ErrWeights {
				t.Errorf("Spread(%d, %v): %v, %d", total, weights, parts, e)
			}
		}
	}
}

// P4.2: parts, down, and what is left.
func TestSplit(t *testing.T) {
	for _, r := range []struct {
		total   uint64
		weights []uint64
		parts   []uint64
		rest    uint64
	}{
		{10, []uint64{1}, []uint64{10}, 0},
		{10, []uint64{7}, []uint64{10}, 0},
		{10, []uint64{2, 3}, []uint64{4, 6}, 0},
		{10, []uint64{3, 2}, []uint64{6, 4}, 0},
		{7, []uint64{20, 30}, []uint64{2, 4}, 1},
		{11, []uint64{1, 1, 1}, []uint64{3, 3, 3}, 2},
		{12, []uint64{1, 1, 1}, []uint64{4, 4, 4}, 0},
		{2, []uint64{1, 1, 1}, []uint64{0, 0, 0}, 2},
		{3, []uint64{1, 2, 3}, []uint64{0, 1, 1}, 1},
		{10, []uint64{0, 1, 0, 1}, []uint64{0, 5, 0, 5}, 0},
		{9, []uint64{0, 1, 0, 1}, []uint64{0, 4, 0, 4}, 1},
		{9, []uint64{0, 0, 4}, []uint64{0, 0, 9}, 0},
		{0, []uint64{1, 2}, []uint64{0, 0}, 0},
		{1, []uint64{1, 99}, []uint64{0, 0}, 1},
		{100, []uint64{1, 99}, []uint64{1, 99}, 0},
		{99, []uint64{1, 99}, []uint64{0, 98}, 1},
	} {
		lookSplit(t, r.total, r.weights, r.parts, r.rest)
	}
}

// P4.2: of a whole of 0 all parts are 0, and all of the total is left.
func TestSplitWithoutWeight(t *testing.T) {
	for _, total := range totals {
		lookSplit(t, total, nil, nil, total)
		lookSplit(t, total, []uint64{}, nil, total)
		for _, n := range []int{1, 2, 100, api.MaxWeights} {
			lookSplit(t, total, many(n, 0), many(n, 0), total)
		}
	}
}

// P4.2: products of more than 64 bits, and parts of all of them.
func TestSplitOfMuch(t *testing.T) {
	const half = 1 << 63
	lookSplit(t, top, []uint64{top}, []uint64{top}, 0)
	lookSplit(t, top, []uint64{half, half - 1}, []uint64{half, half - 1}, 0)
	lookSplit(t, top, []uint64{1, 1}, []uint64{half - 1, half - 1}, 1)
	lookSplit(t, top, []uint64{0, half}, []uint64{0, top}, 0)
	lookSplit(t, top, []uint64{1, 1, 1}, []uint64{top / 3, top / 3, top / 3}, 0)
	lookSplit(t, top-1, []uint64{1, top - 1}, []uint64{0, top - 2}, 1)
	lookSplit(t, half, []uint64{half - 1, half}, []uint64{half/2 - 1, half / 2}, 1)
	lookSplit(t, 1, []uint64{1, top - 1}, []uint64{0, 0}, 1)
	lookSplit(t, 1, []uint64{0, top}, []uint64{0, 1}, 0)
	lookSplit(t, 3<<40, []uint64{1 << 40, 1 << 41}, []uint64{1 << 40, 1 << 41}, 0)
}

// P4.1, P4.2: as many weights as may be, and all in them.
func TestSplitOfMost(t *testing.T) {
	const most = api.MaxWeights
	lookSplit(t, 3*most, many(most, 9), many(most, 3), 0)
	lookSplit(t, 3*most-1, many(most, 9), many(most, 2), most-1)
	lookSplit(t, top, many(most, 1), many(most, top/most), most-1)
	lookSplit(t, top, append(many(most-1, 1<<56), 1<<56-1), append(many(most-1, 1<<56), 1<<56-1), 0)
	lookSplit(t, 77, append(many(most-1, 0), 1), append(many(most-1, 0), 77), 0)
}

// P4.3: parts, and one more for the first ones.
func TestSpread(t *testing.T) {
	for _, r := range []struct {
		total   uint64
		weights []uint64
		parts   []uint64
	}{
		{10, []uint64{1}, []uint64{10}},
		{10, []uint64{1, 1, 1}, []uint64{4, 3, 3}},
		{11, []uint64{1, 1, 1}, []uint64{4, 4, 3}},
		{12, []uint64{1, 1, 1}, []uint64{4, 4, 4}},
		{1, []uint64{1, 1, 1}, []uint64{1, 0, 0}},
		{2, []uint64{1, 1, 1}, []uint64{1, 1, 0}},
		{2, []uint64{0, 1, 0, 1, 0}, []uint64{0, 1, 0, 1, 0}},
		{1, []uint64{0, 1, 0, 1, 0}, []uint64{0, 1, 0, 0, 0}},
		{5, []uint64{0, 0, 1, 0, 1, 1}, []uint64{0, 0, 2, 0, 2, 1}},
		{9, []uint64{1, 0, 1}, []uint64{5, 0, 4}},
		{7, []uint64{20, 30}, []uint64{3, 4}},
		{1, []uint64{1, 99}, []uint64{1, 0}}, // the first ones, and not the heaviest
		{99, []uint64{1, 99}, []uint64{1, 98}},
		{99, []uint64{99, 1}, []uint64{99, 0}},
		{0, []uint64{3, 2}, []uint64{0, 0}},
		{10, []uint64{3, 2}, []uint64{6, 4}},
		{top, []uint64{1, 1}, []uint64{1 << 63, 1<<63 - 1}},
		{top, []uint64{0, 1, 0, 1}, []uint64{0, 1 << 63, 0, 1<<63 - 1}},
		{top, []uint64{0, top, 0}, []uint64{0, top, 0}},
		{top - 1, []uint64{1, top - 1}, []uint64{1, top - 2}},
		{top - 1, []uint64{top - 1, 1}, []uint64{top - 1, 0}},
		{3*api.MaxWeights - 1, many(api.MaxWeights, 9), append(many(api.MaxWeights-1, 3), 2)},
		{2*api.MaxWeights + 1, many(api.MaxWeights, 9), append([]uint64{3}, many(api.MaxWeights-1, 2)...)},
		{8, append(many(api.MaxWeights-3, 0), 1, 1, 1), append(many(api.MaxWeights-3, 0), 3, 3, 2)},
	} {
		lookSpread(t, r.total, r.weights, r.parts)
	}
}

// P4.3: a whole of 0 is refused, whatever the total is.
func TestSpreadWithoutWeight(t *testing.T) {
	for _, total := range totals {
		for _, weights := range [][]uint64{nil, {}, {0}, {0, 0, 0}, many(api.MaxWeights, 0)} {
			if parts, e := share.Spread(total, weights); len(parts) != 0 || e != api.ErrZero {
				t.Errorf("Spread(%d, %v): %v, %d", total, weights, parts, e)
			}
		}
	}
}

// P4.2, P4.3: all totals by all weights, held against whole numbers.
func TestAgainstWholeNumbers(t *testing.T) {
	for _, weights := range weighed() {
		for _, total := range totals {
			parts, rest := truth(total, weights)
			lookSplit(t, total, weights, parts, rest)
			if _, some := together(weights); some == 0 {
				continue
			}
			for i, w := range weights {
				if w > 0 && rest > 0 {
					parts[i]++
					rest--
				}
			}
			lookSpread(t, total, weights, parts)
		}
	}
}

// P4.2, P4.3: all small totals by all lists of small weights.
func TestAllSmall(t *testing.T) {
	for n := range uint64(4 * 4 * 4 * 4) {
		weights := []uint64{n % 4, n / 4 % 4, n / 16 % 4, n / 64}
		for total := range uint64(20) {
			parts, rest := truth(total, weights)
			lookSplit(t, total, weights, parts, rest)
		}
	}
}

// P4.4: a part in ten thousandths, and what is left.
func TestCut(t *testing.T) {
	for _, r := range []struct {
		total      uint64
		rate       int
		part, rest uint64
	}{
		{0, 0, 0, 0},
		{0, 5000, 0, 0},
		{0, api.MaxRate, 0, 0},
		{7, 0, 0, 7},
		{7, 1, 0, 7},
		{7, api.MaxRate - 1, 6, 1},
		{7, api.MaxRate, 7, 0},
		{8, 5000, 4, 4},
		{100, 100, 1, 99},
		{99, 100, 0, 99},
		{10000, 1, 1, 9999},
		{9999, 1, 0, 9999},
		{10001, 1, 1, 10000},
		{10000, 9999, 9999, 1},
		{10001, 9999, 9999, 2},
		{3, 3333, 0, 3},
		{3, 3334, 1, 2},
		{1 << 62, 2500, 1 << 60, 3 << 60},
		{1 << 63, 5000, 1 << 62, 1 << 62},
		{top, 0, 0, top},
		{top, 1, top / 10000, top - top/10000},
		{top, 5000, 1<<63 - 1, 1 << 63},
		{top, 10000, top, 0},
	} {
		if part, rest, e := share.Cut(r.total, r.rate); part != r.part || rest != r.rest || e != api.OK {
			t.Errorf("Cut(%d, %d): %d, %d, %d; want %d, %d, 0", r.total, r.rate, part, rest, e, r.part, r.rest)
		}
	}
}

// P4.4: a rate below 0, and above MaxRate, whatever the total is.
func TestCutRefused(t *testing.T) {
	for _, rate := range []int{-1, -2, -api.MaxRate, -api.MaxRate - 1, math.MinInt, math.MinInt + 1, api.MaxRate + 1, api.MaxRate + 2, 2 * api.MaxRate, 1 << 32, 1<<32 + 5, math.MaxInt} {
		for _, total := range totals {
			if part, rest, e := share.Cut(total, rate); part != 0 || rest != 0 || e != api.ErrArg {
				t.Errorf("Cut(%d, %d): %d, %d, %d", total, rate, part, rest, e)
			}
		}
	}
}

// P4.4, P4.5: all rates, held against whole numbers.
func TestCutAgainstWholeNumbers(t *testing.T) {
	for rate := range api.MaxRate + 1 {
		for _, total := range totals {
			want := new(big.Int).Mul(whole(total), big.NewInt(int64(rate)))
			want.Quo(want, big.NewInt(api.MaxRate))
			part, rest, e := share.Cut(total, rate)
			if whole(part).Cmp(want) != 0 || e != api.OK {
				t.Fatalf("Cut(%d, %d): %d, %d; want %s", total, rate, part, e, want)
			}
			if want.Add(want, whole(rest)).Cmp(whole(total)) != 0 {
				t.Fatalf("Cut(%d, %d): %d and %d are together %s", total, rate, part, rest, want)
			}
		}
	}
}

// P4.5: parts and what is left are together the total, and less is left than there are weights that aren't 0.
func TestNothingIsLost(t *testing.T) {
	for _, weights := range weighed() {
		_, some := together(weights)
		for _, total := range totals {
			parts, rest, _ := share.Split(total, weights)
			sum, _ := together(append(parts, rest))
			if sum.Cmp(whole(total)) != 0 || len(parts) != len(weights) {
				t.Errorf("Split(%d, %v): %v, %d, together %s", total, weights, parts, rest, sum)
			}
			if some == 0 {
				continue
			}
			if rest >= uint64(some) {
				t.Errorf("Split(%d, %v): %d left of %d weights", total, weights, rest, some)
			}
			parts, _ = share.Spread(total, weights)
			if sum, _ = together(parts); sum.Cmp(whole(total)) != 0 || len(parts) != len(weights) {
				t.Errorf("Spread(%d, %v): %v, together %s", total, weights, parts, sum)
			}
		}
	}
}

// P4.5: who has more weight gets no less by Split; who has none gets nothing, by Spread neither.
func TestWhoHasMoreGetsNoLess(t *testing.T) {
	for _, weights := range weighed() {
		if sum, _ := together(weights); sum.Sign() == 0 {
			continue
		}
		for _, total := range totals {
			parts, _, _ := share.Split(total, weights)
			spread, _ := share.Spread(total, weights)
			for i, w := range weights {
				for j, v := range weights {
					if w > v && parts[i] < parts[j] {
						t.Errorf("Split(%d, %v): %d of %d, and %d of %d", total, weights, parts[i], w, parts[j], v)
					}
				}
				if w == 0 && (parts[i] != 0 || spread[i] != 0) {
					t.Errorf("of %d by %v: %d and %d of no weight", total, weights, parts[i], spread[i])
				}
			}
		}
	}
}

// Rule 4: weights that are handed in stay as they are, their spare room too, which isn't read either.
func TestWeightsStay(t *testing.T) {
	all := []uint64{5, 0, 3, top, 7, 9}
	old := slices.Clone(all)
	for range 2 {
		if got, e := share.Whole(all[:3]); got != 8 || e != api.OK {
			t.Errorf("Whole: %d, %d", got, e)
		}
		lookSplit(t, 10, all[:3], []uint64{6, 0, 3}, 1)
		lookSpread(t, 10, all[:3], []uint64{7, 0, 3})
		if parts, rest, e := share.Split(10, all[:4]); len(parts) != 0 || rest != 0 || e != api.ErrWeights {
			t.Errorf("Split: %v, %d, %d", parts, rest, e)
		}
		if !slices.Equal(all, old) {
			t.Fatalf("the weights were %v, are %v", old, all)
		}
	}
	room := many(2*api.MaxWeights, 1)
	if got, e := share.Whole(room[:api.MaxWeights]); got != api.MaxWeights || e != api.OK {
		t.Errorf("Whole, with room behind: %d, %d", got, e)
	}
}

// Rule 4: what is handed out is new memory, spare room too.
func TestPartsAreNew(t *testing.T) {
	calls := map[string]func(weights []uint64) []uint64{
		"Split":  func(weights []uint64) []uint64 { parts, _, _ := share.Split(10, weights); return parts },
		"Spread": func(weights []uint64) []uint64 { parts, _ := share.Spread(10, weights); return parts },
	}
	for what, call := range calls {
		weights := append(make([]uint64, 0, 9), 2, 1, 2)
		first, second := call(weights), call(weights)
		for _, parts := range [][]uint64{first, second} {
			if !slices.Equal(parts, []uint64{4, 2, 4}) {
				t.Errorf("%s: %v", what, parts)
			}
		}
		first = first[:cap(first)]
		for i := range first {
			first[i] = 77
		}
		if all := weights[:cap(weights)]; !slices.Equal(all, []uint64{2, 1, 2, 0, 0, 0, 0, 0, 0}) {
			t.Errorf("%s: the weights are %v", what, all)
		}
		if all := second[:cap(second)]; slices.Contains(all, 77) {
			t.Errorf("%s: the second answer is %v", what, all)
		}
		if third := call(weights); !slices.Equal(third, []uint64{4, 2, 4}) {
			t.Errorf("%s: the third answer is %v", what, third)
		}
		clear(weights)
		if !slices.Equal(second, []uint64{4, 2, 4}) {
			t.Errorf("%s: the second answer is %v, behind other weights", what, second)
		}
	}
}

// The chapter's examples.
func TestExamples(t *testing.T) {
	lookSplit(t, 10, []uint64{1, 1, 1}, []uint64{3, 3, 3}, 1)
	lookSpread(t, 10, []uint64{0, 1, 1, 1}, []uint64{0, 4, 3, 3})
	if part, rest, e := share.Cut(7, 5000); part != 3 || rest != 4 || e != api.OK {
		t.Errorf("Cut(7, 5000): %d, %d, %d", part, rest, e)
	}
}
