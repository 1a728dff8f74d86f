package prize_test

import (
	"math"
	"math/big"
	"math/rand"
	"reflect"
	"slices"
	"testing"

	"bullion/api"
	"bullion/param"
	"bullion/prize"
)

const top = 1<<64 - 1

// simple are the parameters of the document's examples.
func simple() api.Params {
	return api.Params{
		Inc: 10, MaxEff: 30, Floor: 10, Cap: 40, Up: 10, Down: 5,
		Bias: 4, Quot: 100, BiasEm: 8, QuotEm: 50, Recover: 2, ScoreCap: 100,
		Rate: 1 << 20, Bond: 1, Delay: 2, Streak: 4, Boost: 100, Absent: 100, Burn: 5000,
		Churn: 2, Wait: 2, Poll: 2, Enact: 1, Quorum: 3000,
	}
}

// wide are parameters with these numbers for weights and balances, which may be as great as they may be.
func wide(t *testing.T, maxEff, most uint64, boost, streak int) api.Params {
	t.Helper()
	p := simple()
	p.Inc, p.Floor, p.Up, p.Down = 1, 1, 1, 0
	p.Bias, p.BiasEm, p.Quot, p.QuotEm, p.ScoreCap = 1<<20, 1<<20, 1, 1, api.MaxScore
	p.MaxEff, p.Cap, p.Boost, p.Streak = maxEff, most, boost, streak
	if e := param.Check(p); e != api.OK {
		t.Fatalf("%d of %+v", e, p)
	}
	return p
}

// greatest are those of the greatest weights.
func greatest(t *testing.T) api.Params {
	t.Helper()
	return wide(t, api.MaxStake, api.MaxStake, api.MaxBoost, api.MaxStreak)
}

// right are parameters that are right, with all that a weight and a balance go by at its edges.
func right(t *testing.T) []api.Params {
	t.Helper()
	return []api.Params{
		simple(),
		wide(t, 1, 2, 0, 0),
		wide(t, 1, 2, 1, 1),
		wide(t, 2, 2, 0, 4),
		wide(t, 30, 40, 100, 0),
		wide(t, 30, 30, 999, 63),
		wide(t, 1<<32, 1<<40-1, 1000, 1),
		wide(t, 1<<40-1, 1<<40-1, 1, 64),
		wide(t, 1<<40, 1<<40, 0, 64),
		wide(t, 1<<40, 1<<40, 1000, 0),
		greatest(t),
	}
}

// wrong are parameters that aren't right: nothing at all, each number beyond its limit, and what doesn't go together.
func wrong(t *testing.T) []api.Params {
	t.Helper()
	list := []api.Params{{}, {MaxEff: 30, Cap: 40, Streak: 4, Boost: 100}}
	for i := range reflect.TypeFor[api.Params]().NumField() {
		p := simple()
		if f := reflect.ValueOf(&p).Elem().Field(i); f.CanUint() {
			f.SetUint(top)
		} else {
			f.SetInt(math.MaxInt)
		}
		list = append(list, p)
	}
	for _, spoil := range []func(p *api.Params){
		func(p *api.Params) { p.MaxEff = 31 },
		func(p *api.Params) { p.Floor = p.Cap },
		func(p *api.Params) { p.Cap = 29 },
		func(p *api.Params) { p.Bias = 0 },
		func(p *api.Params) { p.ScoreCap = 47 },
		func(p *api.Params) { p.Streak = -1 },
		func(p *api.Params) { p.Streak = api.MaxStreak + 1 },
		func(p *api.Params) { p.Boost = -1 },
		func(p *api.Params) { p.Boost = api.MaxBoost + 1 },
		func(p *api.Params) { p.Churn = 0 },
	} {
		p := simple()
		spoil(&p)
		list = append(list, p)
	}
	for _, p := range list {
		if param.Check(p) != api.ErrParam {
			t.Fatalf("it is right: %+v", p)
		}
	}
	return list
}

// around is each of some numbers, and the one below and the one above it, where there is one.
func around(list ...uint64) []uint64 {
	var all []uint64
	for _, n := range list {
		all = append(all, n)
		if n > 0 {
			all = append(all, n-1)
		}
		if n < top {
			all = append(all, n+1)
		}
	}
	return all
}

// effs are the effective balances at which a weight changes its kind, and those around them.
func effs(p api.Params) []uint64 {
	return around(0, 1, p.Inc, p.MaxEff, p.Cap, 1<<40, 1<<62, 1<<63, top)
}

// streaks are those at which a weight changes its kind, and those around them.
func streaks(p api.Params) []int {
	return []int{
		math.MinInt, math.MinInt + 1, -1 << 32, -2, -1, 0, 1, 2, p.Streak - 1, p.Streak, p.Streak + 1,
		63, 64, 65, 1 << 32, 1<<32 + 1, math.MaxInt - 1, math.MaxInt,
	}
}

// budgets are sums that are given out: none, few, much, and all that a word has room for.
func budgets() []uint64 {
	return around(0, 1, 7, 10, 127, 1000, 65000, 1<<32, 1<<40, 1<<56, 1<<62, 1<<63, top)
}

// many are n standings, all the same.
func many(n int, s api.Standing) []api.Standing { return slices.Repeat([]api.Standing{s}, n) }

// lists are lists of standings that are of use with any parameters, none longer than MaxMembers.
func lists(p api.Params) [][]api.Standing {
	full := api.Standing{Eff: p.MaxEff, Streak: p.Streak}
	above := api.Standing{Eff: p.MaxEff + 1, Streak: 1}
	var rising []api.Standing
	for i := range api.MaxMembers {
		rising = append(rising, api.Standing{Eff: min(uint64(i), p.MaxEff), Streak: i % (p.Streak + 1)})
	}
	return [][]api.Standing{
		nil,
		{},
		{{}},
		{{Eff: 1}},
		{full},
		{above},
		{{}, above, {Streak: 3}},
		{full, {}, full},
		{{Eff: 1}, {Eff: 1, Streak: 1}, {Eff: 1, Streak: p.Streak}, {Eff: 1, Streak: math.MaxInt}},
		{{Eff: p.MaxEff}, full, above, {Eff: p.MaxEff, Streak: -1}, {Eff: top, Streak: math.MaxInt}},
		many(api.MaxMembers, api.Standing{}),
		many(api.MaxMembers, full),
		many(api.MaxMembers-1, full),
		append(many(api.MaxMembers-1, api.Standing{}), full),
		append(many(api.MaxMembers-1, above), api.Standing{Eff: 1}),
		append([]api.Standing{{}}, many(api.MaxMembers-1, full)...),
		rising,
	}
}

func num(n uint64) *big.Int { return new(big.Int).SetUint64(n) }

// weightOf is a weight by parameters that are right, by the chapter's words, over whole numbers.
func weightOf(p api.Params, s api.Standing) *big.Int {
	if s.Eff > p.MaxEff {
		return new(big.Int)
	}
	streak := s.Streak
	if streak < 0 {
		streak = 0
	}
	if streak > p.Streak {
		streak = p.Streak
	}
	n := new(big.Int).Mul(big.NewInt(int64(p.Boost)), big.NewInt(int64(streak)))
	n.Add(n, big.NewInt(1000))
	return n.Mul(n, num(s.Eff))
}

// prizesOf is a budget given out by parameters that are right, likewise.
func prizesOf(p api.Params, budget uint64, list []api.Standing) (parts []uint64, rest uint64) {
	whole := new(big.Int)
	for _, s := range list {
		whole.Add(whole, weightOf(p, s))
	}
	left := num(budget)
	for _, s := range list {
		part := new(big.Int)
		if whole.Sign() > 0 {
			part.Mul(num(budget), weightOf(p, s))
			part.Quo(part, whole)
		}
		left.Sub(left, part)
		parts = append(parts, part.Uint64())
	}
	return parts, left.Uint64()
}

// payOf is a standing with a prize by parameters that are right, and what is above it, likewise.
func payOf(p api.Params, s api.Standing, n uint64) (api.Standing, uint64) {
	if s.Balance > p.Cap {
		return s, n
	}
	both := new(big.Int).Add(num(s.Balance), num(n))
	if both.Cmp(num(p.Cap)) <= 0 {
		s.Balance = both.Uint64()
		return s, 0
	}
	s.Balance = p.Cap
	return s, both.Sub(both, num(p.Cap)).Uint64()
}

func weighed(t *testing.T, p api.Params, s api.Standing) {
	t.Helper()
	want := weightOf(p, s)
	if got := prize.Weight(p, s); num(got).Cmp(want) != 0 {
		t.Fatalf("%+v: %d, want %s of %+v", s, got, want, p)
	}
}

func given(t *testing.T, p api.Params, budget uint64, list []api.Standing) {
	t.Helper()
	parts, rest := prizesOf(p, budget, list)
	got, left, e := prize.Prizes(p, budget, list)
	if !slices.Equal(got, parts) || left != rest || e != api.OK {
		t.Fatalf("%d by %+v: %v, %d, %d; want %v, %d, 0 of %+v", budget, list, got, left, e, parts, rest, p)
	}
}

func refused(t *testing.T, p api.Params, budget uint64, list []api.Standing, want api.Errno) {
	t.Helper()
	if parts, rest, e := prize.Prizes(p, budget, list); len(parts) != 0 || rest != 0 || e != want {
		t.Errorf("%d by %d standings: %v, %d, %d; want %d of %+v", budget, len(list), parts, rest, e, want, p)
	}
}

func paid(t *testing.T, p api.Params, s api.Standing, n uint64) {
	t.Helper()
	want, above := payOf(p, s, n)
	if got, rest := prize.Pay(p, s, n); got != want || rest != above {
		t.Fatalf("%d for %+v: %+v, %d; want %+v, %d of %+v", n, s, got, rest, want, above, p)
	}
}

// P14.1: an effective balance times 1000, and Boost more of each for each tick of the streak.
func TestWeight(t *testing.T) {
	for _, x := range []struct {
		eff    uint64
		streak int
		want   uint64
	}{
		{0, 0, 0}, {0, 2, 0}, {0, 4, 0}, {1, 0, 1000}, {1, 1, 1100}, {1, 4, 1400}, {7, 3, 9100},
		{10, 0, 10000}, {10, 1, 11000}, {10, 2, 12000}, {10, 3, 13000}, {10, 4, 14000}, {20, 0, 20000}, {25, 2, 30000},
		{29, 0, 29000}, {30, 0, 30000}, {30, 1, 33000}, {30, 4, 42000},
	} {
		if got := prize.Weight(simple(), api.Standing{Eff: x.eff, Streak: x.streak}); got != x.want {
			t.Errorf("%d with the streak %d: %d, want %d", x.eff, x.streak, got, x.want)
		}
	}
}

// P14.1: an effective balance above MaxEff weighs nothing, also where it is not above Cap.
func TestWeightAbove(t *testing.T) {
	for _, eff := range []uint64{31, 32, 39, 40, 41, 100, 1 << 40, 1 << 54, 1 << 62, 1 << 63, top - 1, top} {
		for _, streak := range streaks(simple()) {
			if got := prize.Weight(simple(), api.Standing{Eff: eff, Streak: streak}); got != 0 {
				t.Errorf("%d with the streak %d: %d", eff, streak, got)
			}
		}
	}
}

// P14.1: a streak counts from 0 to p's, whatever it is.
func TestWeightStreak(t *testing.T) {
	for _, x := range []struct {
		most, streak int
		want         uint64
	}{
		{4, math.MinInt, 10000}, {4, -5, 10000}, {4, -1, 10000}, {4, 0, 10000}, {4, 1, 11000}, {4, 3, 13000}, {4, 4, 14000},
		{4, 5, 14000}, {4, 64, 14000}, {4, math.MaxInt - 1, 14000}, {4, math.MaxInt, 14000},
		{0, math.MinInt, 10000}, {0, -1, 10000}, {0, 0, 10000}, {0, 1, 10000}, {0, 4, 10000}, {0, math.MaxInt, 10000},
		{1, -1, 10000}, {1, 0, 10000}, {1, 1, 11000}, {1, 2, 11000}, {1, math.MaxInt, 11000},
		{64, math.MinInt, 10000}, {64, 63, 73000}, {64, 64, 74000}, {64, 65, 74000}, {64, math.MaxInt, 74000},
	} {
		p := simple()
		p.Streak = x.most
		if got := prize.Weight(p, api.Standing{Eff: 10, Streak: x.streak}); got != x.want {
			t.Errorf("%d of %d: %d, want %d", x.streak, x.most, got, x.want)
		}
	}
}

// P14.1: a Boost of 0 makes all streaks alike, and the greatest one with the longest streak weighs 65 times as much.
func TestWeightBoost(t *testing.T) {
	for _, x := range []struct {
		boost, most, streak int
		want                uint64
	}{
		{0, 0, 0, 10000}, {0, 0, 64, 10000}, {0, 64, 0, 10000}, {0, 64, 64, 10000}, {0, 64, math.MaxInt, 10000},
		{1, 64, 0, 10000}, {1, 64, 1, 10010}, {1, 64, 64, 10640}, {1000, 0, 64, 10000}, {1000, 1, 1, 20000},
		{1000, 64, 0, 10000}, {1000, 64, 63, 640000}, {1000, 64, 64, 650000}, {1000, 64, 65, 650000}, {999, 64, 64, 649360},
	} {
		p := simple()
		p.Boost, p.Streak = x.boost, x.most
		if got := prize.Weight(p, api.Standing{Eff: 10, Streak: x.streak}); got != x.want {
			t.Errorf("%d of %d by the boost %d: %d, want %d", x.streak, x.most, x.boost, got, x.want)
		}
	}
	s := api.Standing{Eff: api.MaxStake, Streak: math.MaxInt}
	if got := prize.Weight(greatest(t), s); got != 65000<<40 {
		t.Errorf("the greatest one: %d", got)
	}
	s.Eff++
	if got := prize.Weight(greatest(t), s); got != 0 {
		t.Errorf("above the greatest one: %d", got)
	}
}

// P14.1: neither a balance nor a score weighs anything.
func TestWeightOfNothingElse(t *testing.T) {
	for _, n := range []uint64{0, 1, 9, 10, 30, 40, 41, 100, 101, 1 << 40, 1 << 63, top} {
		for _, s := range []api.Standing{{Balance: n}, {Score: n}, {Balance: n, Score: top - n}} {
			s.Eff, s.Streak = 10, 2
			if got := prize.Weight(simple(), s); got != 12000 {
				t.Errorf("%+v: %d", s, got)
			}
		}
	}
}

// P14.1: all effective balances and streaks at which something changes, held against whole numbers.
func TestWeightAgainstWholeNumbers(t *testing.T) {
	for _, p := range right(t) {
		for _, eff := range effs(p) {
			for _, streak := range streaks(p) {
				weighed(t, p, api.Standing{Balance: 5, Eff: eff, Score: 6, Streak: streak})
			}
		}
	}
	for eff := range uint64(50) {
		for streak := -3; streak < 10; streak++ {
			weighed(t, simple(), api.Standing{Eff: eff, Streak: streak})
		}
	}
}

// P14.1: of no standings there are no prizes, and all of the budget is left.
func TestPrizesOfNobody(t *testing.T) {
	for _, budget := range budgets() {
		for _, list := range [][]api.Standing{nil, {}, make([]api.Standing, 0, 9)} {
			if parts, rest, e := prize.Prizes(simple(), budget, list); len(parts) != 0 || rest != budget || e != api.OK {
				t.Errorf("%d: %v, %d, %d", budget, parts, rest, e)
			}
		}
	}
}

// P14.1: a budget is given out by weights, down, each part at its standing's place.
func TestPrizes(t *testing.T) {
	a, b, c := api.Standing{Eff: 10}, api.Standing{Eff: 20, Streak: 4}, api.Standing{Eff: 30, Streak: -7}
	for _, x := range []struct {
		budget uint64
		list   []api.Standing
		parts  []uint64
		rest   uint64
	}{
		{0, []api.Standing{a}, []uint64{0}, 0},
		{1, []api.Standing{a}, []uint64{1}, 0},
		{top, []api.Standing{a}, []uint64{top}, 0},
		{0, []api.Standing{a, b, c}, []uint64{0, 0, 0}, 0},
		{1, []api.Standing{a, b, c}, []uint64{0, 0, 0}, 1},
		{68, []api.Standing{a, b, c}, []uint64{10, 28, 30}, 0},
		{68, []api.Standing{c, a, b}, []uint64{30, 10, 28}, 0},
		{67, []api.Standing{a, b, c}, []uint64{9, 27, 29}, 2},
		{69, []api.Standing{a, b, c}, []uint64{10, 28, 30}, 1},
		{1, []api.Standing{a, a}, []uint64{0, 0}, 1},
		{top, []api.Standing{a, a}, []uint64{top / 2, top / 2}, 1},
		{top, []api.Standing{a, a, a}, []uint64{top / 3, top / 3, top / 3}, 0},
		{top, []api.Standing{a, c}, []uint64{top / 4, top/4*3 + 2}, 1},
		{10, []api.Standing{{}}, []uint64{0}, 10},
		{10, []api.Standing{{}, {Streak: 9}, {Eff: 31}, {Eff: top}}, []uint64{0, 0, 0, 0}, 10},
		{top, []api.Standing{{Eff: 31}, {}}, []uint64{0, 0}, top},
		{10, []api.Standing{a, {}, a}, []uint64{5, 0, 5}, 0},
		{10, []api.Standing{a, {Eff: 31}, a}, []uint64{5, 0, 5}, 0},
		{10, []api.Standing{{}, {Eff: 31}, {}, {Eff: 1}, {}}, []uint64{0, 0, 0, 10, 0}, 0},
	} {
		parts, rest, e := prize.Prizes(simple(), x.budget, x.list)
		if !slices.Equal(parts, x.parts) || rest != x.rest || e != api.OK {
			t.Errorf("%d by %+v: %v, %d, %d; want %v, %d", x.budget, x.list, parts, rest, e, x.parts, x.rest)
		}
	}
}

// P14.1: at most MaxMembers standings, also where one more of them weighs nothing, and where there would be nothing to give.
func TestPrizesOfMany(t *testing.T) {
	for _, s := range []api.Standing{{}, {Eff: 1}, {Eff: 30, Streak: 4}, {Eff: 31}} {
		for _, budget := range budgets() {
			given(t, simple(), budget, many(api.MaxMembers-1, s))
			given(t, simple(), budget, many(api.MaxMembers, s))
			for _, n := range []int{129, 130, 255, 256, 257, 1000, 1 << 16} {
				refused(t, simple(), budget, many(n, s), api.ErrBig)
			}
		}
	}
}

// P14.1: the greatest weights, MaxMembers times.
func TestPrizesOfTheGreatest(t *testing.T) {
	list := many(api.MaxMembers, api.Standing{Balance: top, Eff: api.MaxStake, Score: top, Streak: math.MaxInt})
	for _, x := range []struct{ budget, part, rest uint64 }{
		{0, 0, 0}, {1, 0, 1}, {127, 0, 127}, {128, 1, 0}, {129, 1, 1}, {1 << 62, 1 << 55, 0}, {top, 1<<57 - 1, 127},
	} {
		parts, rest, e := prize.Prizes(greatest(t), x.budget, list)
		if !slices.Equal(parts, slices.Repeat([]uint64{x.part}, api.MaxMembers)) || rest != x.rest || e != api.OK {
			t.Errorf("%d: %v, %d, %d", x.budget, parts, rest, e)
		}
	}
	refused(t, greatest(t), 128, append(list, api.Standing{}), api.ErrBig)
}

// P14.1: all lists by all budgets, held against whole numbers.
func TestPrizesAgainstWholeNumbers(t *testing.T) {
	for _, p := range right(t) {
		for _, list := range lists(p) {
			for _, budget := range budgets() {
				given(t, p, budget, list)
			}
		}
	}
}

// P14.2: a balance rises by the prize, but at most to Cap; a balance above Cap stays where it is.
func TestPay(t *testing.T) {
	for _, x := range []struct{ balance, prize, after, above uint64 }{
		{0, 0, 0, 0}, {0, 1, 1, 0}, {0, 39, 39, 0}, {0, 40, 40, 0}, {0, 41, 40, 1}, {0, top, 40, top - 40},
		{25, 0, 25, 0}, {25, 2, 27, 0}, {25, 14, 39, 0}, {25, 15, 40, 0}, {25, 16, 40, 1}, {25, top, 40, top - 15},
		{39, 0, 39, 0}, {39, 1, 40, 0}, {39, 2, 40, 1}, {39, top - 39, 40, top - 40}, {39, top - 38, 40, top - 39}, {39, top, 40, top - 1},
		{40, 0, 40, 0}, {40, 1, 40, 1}, {40, 4, 40, 4}, {40, top - 40, 40, top - 40}, {40, top - 39, 40, top - 39}, {40, top, 40, top},
		{41, 0, 41, 0}, {41, 1, 41, 1}, {41, 40, 41, 40}, {41, top, 41, top},
		{top - 1, 0, top - 1, 0}, {top - 1, 1, top - 1, 1}, {top - 1, 2, top - 1, 2}, {top - 1, top, top - 1, top},
		{top, 0, top, 0}, {top, 1, top, 1}, {top, top, top, top},
	} {
		got, above := prize.Pay(simple(), api.Standing{Balance: x.balance}, x.prize)
		if got != (api.Standing{Balance: x.after}) || above != x.above {
			t.Errorf("%d for %d: %+v, %d; want %d, %d", x.prize, x.balance, got, above, x.after, x.above)
		}
	}
}

// P14.2: it is p's Cap that a balance rises to, not MaxEff; the greatest Cap too.
func TestPayByCap(t *testing.T) {
	for _, p := range right(t) {
		for _, balance := range around(0, p.Floor, p.MaxEff, p.Cap, 1<<40, 1<<63, top) {
			for _, n := range around(0, 1, p.MaxEff, p.Cap, p.Cap-balance, 1<<40, 1<<63, top) {
				paid(t, p, api.Standing{Balance: balance, Eff: 1}, n)
			}
		}
	}
}

// P14.2: what else a standing has stays as it was, whatever it is.
func TestPayLeavesTheRest(t *testing.T) {
	for _, eff := range []uint64{0, 10, 30, 31, 40, top} {
		for _, score := range []uint64{0, 99, 100, 101, top} {
			for _, streak := range streaks(simple()) {
				s := api.Standing{Balance: 38, Eff: eff, Score: score, Streak: streak}
				for _, n := range []uint64{0, 1, 2, 3, top} {
					got, _ := prize.Pay(simple(), s, n)
					got.Balance = 38
					if got != s {
						t.Fatalf("%d for %+v: %+v", n, s, got)
					}
					paid(t, simple(), s, n)
				}
			}
		}
	}
}

// P14.1, P14.2: of parameters that aren't right no weight, ErrParam ahead of ErrBig, and what came in.
func TestWrongParams(t *testing.T) {
	for _, p := range wrong(t) {
		for _, s := range []api.Standing{{}, {Balance: 25, Eff: 20, Score: 3, Streak: 2}, {Balance: 40, Eff: 30}, {Balance: top, Eff: top, Score: top, Streak: math.MaxInt}, {Streak: math.MinInt}} {
			if got := prize.Weight(p, s); got != 0 {
				t.Errorf("%+v: %d of %+v", s, got, p)
			}
			for _, n := range []uint64{0, 1, 2, 40, top} {
				if got, above := prize.Pay(p, s, n); got != s || above != n {
					t.Errorf("%d for %+v: %+v, %d of %+v", n, s, got, above, p)
				}
				for _, members := range []int{0, 1, 2, api.MaxMembers, api.MaxMembers + 1, 1000} {
					refused(t, p, n, many(members, s), api.ErrParam)
				}
			}
		}
	}
}

// P14.3: prizes and what is left are together the budget, and there are as many as there are standings.
func TestNothingIsLost(t *testing.T) {
	for _, p := range right(t) {
		for _, list := range lists(p) {
			for _, budget := range budgets() {
				parts, rest, e := prize.Prizes(p, budget, list)
				sum := num(rest)
				for _, part := range parts {
					sum.Add(sum, num(part))
				}
				if sum.Cmp(num(budget)) != 0 || len(parts) != len(list) || e != api.OK {
					t.Fatalf("%d by %+v: %v, %d, %d, together %s", budget, list, parts, rest, e, sum)
				}
			}
		}
	}
}

// P14.3: of two with the same stake the one with the longer streak gets no less, whoever is beside them.
func TestLongerStreakGetsNoLess(t *testing.T) {
	for _, p := range right(t) {
		for _, eff := range effs(p) {
			var list []api.Standing
			for _, streak := range streaks(p) {
				list = append(list, api.Standing{Eff: eff, Streak: streak})
			}
			list = append(list, api.Standing{Eff: 1}, api.Standing{Eff: p.MaxEff, Streak: 1})
			for _, budget := range budgets() {
				parts, _, e := prize.Prizes(p, budget, list)
				if e != api.OK {
					t.Fatal(e)
				}
				longer(t, list, parts)
			}
		}
	}
}

func longer(t *testing.T, list []api.Standing, parts []uint64) {
	t.Helper()
	for i, one := range list {
		for j, other := range list {
			if one.Eff == other.Eff && one.Streak > other.Streak && parts[i] < parts[j] {
				t.Fatalf("%+v gets %d, and %+v gets %d", one, parts[i], other, parts[j])
			}
		}
	}
}

// P14.3: what is paid and what is above it is the prize, also of parameters that aren't right.
func TestPaidAndAbove(t *testing.T) {
	for _, p := range append(right(t), wrong(t)...) {
		for _, balance := range around(0, 10, 30, p.Cap, 1<<40, 1<<63, top) {
			for _, n := range budgets() {
				got, above := prize.Pay(p, api.Standing{Balance: balance}, n)
				whole := new(big.Int).Sub(num(got.Balance), num(balance))
				if whole.Sign() < 0 || whole.Add(whole, num(above)).Cmp(num(n)) != 0 {
					t.Fatalf("%d for %d: %+v, %d of %+v", n, balance, got, above, p)
				}
			}
		}
	}
}

// Rule 4: standings that are handed in stay as they are, their spare room too, which isn't read either.
func TestStandingsStay(t *testing.T) {
	all := []api.Standing{
		{Balance: 45, Eff: 10, Score: 101, Streak: -3}, {Balance: 7, Eff: 20, Score: 1, Streak: 9}, {Balance: 1, Eff: 31, Streak: 2},
		{Balance: 40, Eff: 30, Streak: 4}, {Eff: 30},
	}
	old := slices.Clone(all)
	for _, n := range []int{0, 1, 2, 3, 5} {
		given(t, simple(), 1000, all[:n])
		refused(t, api.Params{}, 1000, all[:n], api.ErrParam)
		if !slices.Equal(all, old) {
			t.Fatalf("they were %+v, are %+v", old, all)
		}
	}
	room := many(api.MaxMembers+9, api.Standing{Eff: 10, Streak: 8})
	given(t, simple(), 1280, room[:api.MaxMembers])
	refused(t, simple(), 1280, room, api.ErrBig)
	if !slices.Equal(room, many(api.MaxMembers+9, api.Standing{Eff: 10, Streak: 8})) {
		t.Errorf("they are %+v", room)
	}
}

// Rule 4: prizes are new memory, spare room too, and hang on nothing that is kept.
func TestPrizesAreNew(t *testing.T) {
	list := append(make([]api.Standing, 0, 9), api.Standing{Eff: 20}, api.Standing{Eff: 10}, api.Standing{Eff: 20})
	call := func() []uint64 { parts, _, _ := prize.Prizes(simple(), 10, list); return parts }
	want := []uint64{4, 2, 4}
	first, second := call(), call()
	if !slices.Equal(first, want) || !slices.Equal(second, want) {
		t.Fatalf("%v, %v", first, second)
	}
	first = first[:cap(first)]
	for i := range first {
		first[i] = 77
	}
	if slices.Contains(second[:cap(second)], 77) {
		t.Errorf("the second answer is %v", second)
	}
	if third := call(); !slices.Equal(third, want) {
		t.Errorf("the third answer is %v", third)
	}
	clear(list)
	if !slices.Equal(second, want) {
		t.Errorf("the second answer is %v, behind other standings", second)
	}
}

// P14.1 to P14.3: mixed parameters, standings and budgets, of numbers of all lengths.
func TestMixed(t *testing.T) {
	dice := rand.New(rand.NewSource(14))
	any := func(most uint64) uint64 { return min(dice.Uint64()>>dice.Intn(64), most) }
	for range 3000 {
		maxEff := 1 + any(api.MaxStake-1)
		most := min(max(2, maxEff)+any(api.MaxStake), api.MaxStake)
		p := wide(t, maxEff, most, dice.Intn(api.MaxBoost+1), dice.Intn(api.MaxStreak+1))
		var list []api.Standing
		for range dice.Intn(api.MaxMembers + 1) {
			s := api.Standing{Balance: any(top), Eff: any(maxEff), Score: any(top), Streak: dice.Intn(70) - 3}
			if dice.Intn(8) == 0 {
				s.Eff, s.Streak = any(top), int(any(top))
			}
			list = append(list, s)
			weighed(t, p, s)
			paid(t, p, s, any(top))
			paid(t, p, api.Standing{Balance: any(most)}, any(most))
		}
		budget := any(top)
		given(t, p, budget, list)
		parts, _, _ := prize.Prizes(p, budget, list)
		longer(t, list, parts)
	}
}

// The chapter's examples.
func TestExamples(t *testing.T) {
	if got := prize.Weight(simple(), api.Standing{Eff: 10, Streak: 2}); got != 12000 {
		t.Error(got)
	}
	list := []api.Standing{{Eff: 10}, {Eff: 10, Streak: 5}}
	if a, b := prize.Weight(simple(), list[0]), prize.Weight(simple(), list[1]); a != 10000 || b != 14000 {
		t.Error(a, b)
	}
	parts, rest, e := prize.Prizes(simple(), 10, list)
	if !slices.Equal(parts, []uint64{4, 5}) || rest != 1 || e != api.OK {
		t.Error(parts, rest, e)
	}
}

// The document's examples of the whole: of 20 and 30 at stake, both there, 7 are minted: 2 and 4 paid, 1 kept; the second one has 40 still.
func TestExamplesOfTheWhole(t *testing.T) {
	list := []api.Standing{{Balance: 25, Eff: 20, Streak: 1}, {Balance: 40, Eff: 30, Streak: 1}}
	parts, rest, e := prize.Prizes(simple(), 7, list)
	if !slices.Equal(parts, []uint64{2, 4}) || rest != 1 || e != api.OK {
		t.Fatal(parts, rest, e)
	}
	for i, x := range []struct{ balance, above uint64 }{{27, 0}, {40, 4}} {
		want := list[i]
		want.Balance = x.balance
		if got, above := prize.Pay(simple(), list[i], parts[i]); got != want || above != x.above {
			t.Errorf("%+v: %+v, %d", list[i], got, above)
		}
	}
}
