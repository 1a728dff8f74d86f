package grain_test

import (
	"math"
	"math/big"
	"math/rand"
	"testing"

	"bullion/api"
	"bullion/grain"
	"bullion/param"
)

const top = 1<<64 - 1

// simple are the parameters of the document's examples.
func simple() api.Params {
	return api.Params{
		Inc: 10, MaxEff: 30, Floor: 10, Cap: 40, Up: 10, Down: 5,
		Bias: 4, Quot: 100, BiasEm: 8, QuotEm: 50, Recover: 2, ScoreCap: 100,
		Rate: 1 << 20, Bond: 1, Delay: 2, Streak: 4, Boost: 100, Absent: 100, Burn: 5000,
		Churn: 2, Wait: 2, Poll: 2, Enact: 1, Quorum: 3000,
	}
}

// scaled are parameters with these numbers for balances, whose leak is over in one tick.
func scaled(inc, maxEff, floor, most, up, down uint64) api.Params {
	p := simple()
	p.Inc, p.MaxEff, p.Floor, p.Cap, p.Up, p.Down = inc, maxEff, floor, most, up, down
	p.Bias, p.BiasEm, p.Quot, p.QuotEm, p.ScoreCap = api.MaxBias, api.MaxBias, 1, 1, api.MaxScore
	return p
}

// finest are those whose steps are single coins, and that follow a balance at once.
func finest() api.Params { return scaled(1, 1, 1, 2, 1, 0) }

// widest are those with the greatest steps, the most room for them, and the greatest distances.
func widest() api.Params {
	return scaled(api.MaxInc, api.MaxStake, api.MaxInc, api.MaxStake, api.MaxStake, api.MaxStake)
}

// right are parameters that are right, with all that a balance goes by at its edges.
func right(t *testing.T) []api.Params {
	t.Helper()
	list := []api.Params{
		simple(), finest(), widest(),
		scaled(10, 10, 10, 11, 10, 0),
		scaled(10, 10, 10, 40, 10, 5),
		scaled(10, 30, 10, 30, 10, 5),
		scaled(10, 30, 10, 40, 10, 0),
		scaled(10, 30, 10, 40, 11, 10),
		scaled(10, 30, 10, 40, 25, 45),
		scaled(10, 30, 39, 40, 10, 5),
		scaled(10, 30, 10, 40, api.MaxStake, api.MaxStake),
		scaled(1, 30, 1, 40, 1, 1),
		scaled(7, 70, 9, 1000, 8, 3),
		scaled(1, api.MaxStake, 1, api.MaxStake, 1, 0),
		scaled(1<<20, 3<<20, 1<<20, api.MaxStake, 1<<20, 1<<19),
		scaled(api.MaxInc, api.MaxInc, api.MaxInc, api.MaxInc+1, api.MaxInc, 0),
		scaled(api.MaxInc, api.MaxStake, api.MaxStake-1, api.MaxStake, api.MaxInc, api.MaxInc),
	}
	for _, p := range list {
		if e := param.Check(p); e != api.OK {
			t.Fatalf("%d of %+v", e, p)
		}
	}
	return list
}

// wrong are parameters that aren't right, each by another number, and nothing at all.
func wrong(t *testing.T) []api.Params {
	t.Helper()
	list := []api.Params{{}}
	for _, spoil := range []func(p *api.Params){
		func(p *api.Params) { p.Inc = 0 },
		func(p *api.Params) { p.Inc = 20 },
		func(p *api.Params) { p.Inc = top },
		func(p *api.Params) { p.MaxEff = 0 },
		func(p *api.Params) { p.MaxEff = 31 },
		func(p *api.Params) { p.MaxEff = 50 },
		func(p *api.Params) { p.Floor = 9 },
		func(p *api.Params) { p.Floor = 40 },
		func(p *api.Params) { p.Cap = 29 },
		func(p *api.Params) { p.Cap = top },
		func(p *api.Params) { p.Up = 9 },
		func(p *api.Params) { p.Up = api.MaxStake + 1 },
		func(p *api.Params) { p.Down = api.MaxStake + 1 },
		func(p *api.Params) { p.Bias = 0 },
		func(p *api.Params) { p.Quot = 0 },
		func(p *api.Params) { p.BiasEm = 3 },
		func(p *api.Params) { p.QuotEm = 101 },
		func(p *api.Params) { p.Recover = api.MaxBias + 1 },
		func(p *api.Params) { p.ScoreCap = 47 },
		func(p *api.Params) { p.Rate = api.MaxIssue + 1 },
		func(p *api.Params) { p.Bond = api.MaxStake + 1 },
		func(p *api.Params) { p.Delay = -1 },
		func(p *api.Params) { p.Streak = api.MaxStreak + 1 },
		func(p *api.Params) { p.Boost = math.MaxInt },
		func(p *api.Params) { p.Absent = -1 },
		func(p *api.Params) { p.Burn = api.MaxRate + 1 },
		func(p *api.Params) { p.Churn = 0 },
		func(p *api.Params) { p.Wait = api.MaxWait + 1 },
		func(p *api.Params) { p.Poll = 0 },
		func(p *api.Params) { p.Enact = math.MinInt },
		func(p *api.Params) { p.Quorum = -1 },
	} {
		p := simple()
		spoil(&p)
		list = append(list, p)
	}
	for _, p := range list {
		if param.Check(p) != api.ErrParam {
			t.Fatalf("it is right: %+v", p)
		}
	}
	return list
}

func num(n uint64) *big.Int { return new(big.Int).SetUint64(n) }

// below says whether a and b together are below c, as whole numbers.
func below(a, b, c uint64) bool {
	return new(big.Int).Add(num(a), num(b)).Cmp(num(c)) < 0
}

// wholeOf is the chapter's Whole of parameters that are right, over whole numbers.
func wholeOf(p api.Params, balance uint64) uint64 {
	steps := new(big.Int).Div(num(balance), num(p.Inc))
	steps.Mul(steps, num(p.Inc))
	if steps.Cmp(num(p.MaxEff)) > 0 {
		return p.MaxEff
	}
	return steps.Uint64()
}

// nextOf is the chapter's Next, likewise.
func nextOf(p api.Params, eff, balance uint64) uint64 {
	if below(balance, p.Down, eff) || below(eff, p.Up, balance) {
		return wholeOf(p, balance)
	}
	return eff
}

// fitsOf is the chapter's Fits, likewise.
func fitsOf(p api.Params, eff, balance uint64) bool {
	steps := new(big.Int).Mod(num(eff), num(p.Inc)).Sign() == 0
	return steps && eff >= p.Inc && eff <= p.MaxEff && nextOf(p, eff, balance) == eff
}

// held asks that all that is answered of parameters that are right is what the chapter's words say.
func held(t *testing.T, p api.Params, eff, balance uint64) {
	t.Helper()
	if got, want := grain.Whole(p, balance), wholeOf(p, balance); got != want {
		t.Fatalf("Whole(%d): %d, want %d of %+v", balance, got, want, p)
	}
	if got, want := grain.Next(p, eff, balance), nextOf(p, eff, balance); got != want {
		t.Fatalf("Next(%d, %d): %d, want %d of %+v", eff, balance, got, want, p)
	}
	if got, want := grain.Fits(p, eff, balance), fitsOf(p, eff, balance); got != want {
		t.Fatalf("Fits(%d, %d): %t of %+v", eff, balance, got, p)
	}
	kept, rest := grain.Clamp(p, balance)
	if balance <= p.Cap && (kept != balance || rest != 0) {
		t.Fatalf("Clamp(%d): %d, %d of %+v", balance, kept, rest, p)
	}
	if balance > p.Cap && (kept != p.Cap || rest != balance-p.Cap) {
		t.Fatalf("Clamp(%d): %d, %d of %+v", balance, kept, rest, p)
	}
}

// refused asks that of parameters that aren't right nothing is told.
func refused(t *testing.T, p api.Params, eff, balance uint64) {
	t.Helper()
	if got := grain.Whole(p, balance); got != 0 {
		t.Fatalf("Whole(%d): %d of %+v", balance, got, p)
	}
	if got := grain.Next(p, eff, balance); got != 0 {
		t.Fatalf("Next(%d, %d): %d of %+v", eff, balance, got, p)
	}
	if grain.Fits(p, eff, balance) {
		t.Fatalf("Fits(%d, %d) of %+v", eff, balance, p)
	}
	if kept, rest := grain.Clamp(p, balance); kept != 0 || rest != balance {
		t.Fatalf("Clamp(%d): %d, %d of %+v", balance, kept, rest, p)
	}
}

// around is each of some numbers, and the one below and the one above it, where there is one.
func around(list ...uint64) []uint64 {
	var all []uint64
	for _, n := range list {
		all = append(all, n)
		if n > 0 {
			all = append(all, n-1)
		}
		if n < top {
			all = append(all, n+1)
		}
	}
	return all
}

// marks are the numbers at which something changes, whatever else there is, and those around them.
func marks(p api.Params) []uint64 {
	return around(0, p.Inc, 2*p.Inc, p.Floor, p.MaxEff-p.Inc, p.MaxEff, p.MaxEff+p.Inc, p.Cap, p.Up, p.Down, api.MaxStake, 1<<63, top-p.Up, top-p.Down, top)
}

// near are balances around those at which an effective balance moves: the sums that the type can't hold wrap round.
func near(p api.Params, eff uint64) []uint64 {
	return around(eff, eff-p.Down, eff+p.Up)
}

// P10.1: the greatest whole number of Inc that is not above a balance, but at most MaxEff.
func TestWhole(t *testing.T) {
	stake := uint64(api.MaxStake)
	inc := uint64(api.MaxInc)
	for _, x := range []struct {
		p             api.Params
		balance, want uint64
	}{
		{simple(), 0, 0}, {simple(), 1, 0}, {simple(), 9, 0},
		{simple(), 10, 10}, {simple(), 11, 10}, {simple(), 19, 10},
		{simple(), 20, 20}, {simple(), 21, 20}, {simple(), 29, 20},
		{simple(), 30, 30}, {simple(), 31, 30}, {simple(), 39, 30},
		{simple(), 40, 30}, {simple(), 41, 30}, {simple(), stake, 30}, {simple(), top, 30},
		{finest(), 0, 0}, {finest(), 1, 1}, {finest(), 2, 1}, {finest(), 3, 1}, {finest(), top, 1},
		{scaled(1, 30, 1, 40, 1, 1), 17, 17}, {scaled(1, 30, 1, 40, 1, 1), 29, 29},
		{scaled(7, 70, 9, 1000, 8, 3), 48, 42}, {scaled(7, 70, 9, 1000, 8, 3), 49, 49},
		{widest(), 0, 0}, {widest(), inc - 1, 0}, {widest(), inc, inc}, {widest(), inc + 1, inc},
		{widest(), 5*inc - 1, 4 * inc}, {widest(), 5 * inc, 5 * inc}, {widest(), 5*inc + 1, 5 * inc},
		{widest(), stake - 1, stake - inc}, {widest(), stake, stake}, {widest(), stake + 1, stake}, {widest(), top, stake},
	} {
		if got := grain.Whole(x.p, x.balance); got != x.want {
			t.Errorf("%d: %d, want %d of %+v", x.balance, got, x.want, x.p)
		}
	}
}

// step is an effective balance, a balance, and the effective balance that is to follow.
type step struct {
	eff, balance, want uint64
}

func follow(t *testing.T, p api.Params, steps []step) {
	t.Helper()
	for _, x := range steps {
		if got := grain.Next(p, x.eff, x.balance); got != x.want {
			t.Errorf("Next(%d, %d): %d, want %d of %+v", x.eff, x.balance, got, x.want, p)
		}
	}
}

// P10.1: it moves where balance and Down together are below eff, or eff and Up together below balance; else it stays.
func TestNext(t *testing.T) {
	follow(t, simple(), []step{
		{30, 24, 20}, {30, 25, 30}, {30, 26, 30}, {20, 14, 10}, {20, 15, 20}, {10, 4, 0}, {10, 5, 10},
		{20, 29, 20}, {20, 30, 20}, {20, 31, 30}, {10, 20, 10}, {10, 21, 20}, {10, 40, 30},
		{30, 40, 30}, {30, 41, 30}, {30, 0, 0}, {20, 20, 20}, {20, top, 30},
		// What is no effective balance at all moves, and stays, likewise.
		{0, 0, 0}, {0, 10, 0}, {0, 11, 10}, {0, top, 30},
		{9, 4, 9}, {9, 3, 0}, {9, 19, 9}, {9, 20, 20}, {25, 20, 25}, {25, 19, 10}, {25, 35, 25}, {25, 36, 30},
		{31, 26, 31}, {31, 25, 20}, {31, 41, 31}, {31, 42, 30}, {40, 35, 40}, {40, 34, 30}, {40, 50, 40}, {40, 51, 30},
	})
	follow(t, scaled(10, 30, 10, 40, 10, 0), []step{{30, 29, 20}, {30, 30, 30}, {30, 31, 30}, {20, 19, 10}})
	follow(t, scaled(10, 30, 10, 40, 25, 45), []step{{30, 0, 30}, {10, 35, 10}, {10, 36, 30}, {46, 0, 0}, {46, 1, 46}})
	follow(t, finest(), []step{{1, 0, 0}, {1, 1, 1}, {1, 2, 1}, {0, 1, 0}, {0, 2, 1}, {1, 3, 1}, {2, 1, 1}})
	stake := uint64(api.MaxStake)
	follow(t, widest(), []step{
		{stake, 0, stake}, {0, stake, 0}, {0, stake + 1, stake}, {stake + 1, 0, 0}, {stake + 1, 1, stake + 1},
		{stake, 2 * stake, stake}, {2*stake + 5, stake + 4, stake}, {2*stake + 5, stake + 5, 2*stake + 5},
	})
}

// P10.1: sums that have more than 64 bits are above all that there is.
func TestSumsAboveTheRange(t *testing.T) {
	follow(t, simple(), []step{
		{top, top, top}, {top, top - 1, top}, {top, top - 4, top}, {top, top - 5, top}, {top, top - 6, 30},
		{top - 1, top, top - 1}, {top - 9, top, top - 9}, {top - 10, top, top - 10}, {top - 11, top, 30},
		{top - 4, top - 9, top - 4}, {top - 4, top - 10, 30}, {top, 0, 0}, {top, 10, 10}, {0, top, 30},
	})
	stake := uint64(api.MaxStake)
	follow(t, widest(), []step{
		{top, top - stake, top}, {top, top - stake - 1, stake}, {top, top - 1, top},
		{top - stake, top, top - stake}, {top - stake - 1, top, stake}, {top - 1, top, top - 1},
	})
}

// P10.1: what fits is a whole number of Inc from Inc to MaxEff that Next leaves.
func TestFits(t *testing.T) {
	for _, x := range []struct {
		eff, balance uint64
		want         bool
	}{
		{0, 0, false}, {0, 5, false}, {0, 10, false}, {0, 11, false},
		{5, 5, false}, {9, 9, false}, {11, 11, false}, {15, 15, false}, {25, 25, false}, {29, 29, false},
		{10, 4, false}, {10, 5, true}, {10, 6, true}, {10, 10, true}, {10, 20, true}, {10, 21, false},
		{20, 14, false}, {20, 15, true}, {20, 30, true}, {20, 31, false},
		{30, 24, false}, {30, 25, true}, {30, 30, true}, {30, 40, true},
		// Next answers Whole, which is what there was.
		{30, 41, true}, {30, top, true},
		{31, 31, false}, {39, 40, false}, {40, 40, false}, {40, 35, false}, {50, 50, false},
		{top, top, false}, {top - 5, top, false}, {top - top%10, top, false}, {0, top, false}, {20, top, false},
	} {
		if got := grain.Fits(simple(), x.eff, x.balance); got != x.want {
			t.Errorf("Fits(%d, %d): %t", x.eff, x.balance, got)
		}
	}
}

// P10.2: what of a balance is at most Cap, and what is above it.
func TestClamp(t *testing.T) {
	stake := uint64(api.MaxStake)
	for _, x := range []struct {
		p                   api.Params
		balance, kept, rest uint64
	}{
		{simple(), 0, 0, 0}, {simple(), 1, 1, 0}, {simple(), 10, 10, 0}, {simple(), 30, 30, 0}, {simple(), 31, 31, 0},
		{simple(), 39, 39, 0}, {simple(), 40, 40, 0}, {simple(), 41, 40, 1}, {simple(), 100, 40, 60}, {simple(), top, 40, top - 40},
		{finest(), 1, 1, 0}, {finest(), 2, 2, 0}, {finest(), 3, 2, 1},
		{widest(), stake - 1, stake - 1, 0}, {widest(), stake, stake, 0}, {widest(), stake + 1, stake, 1}, {widest(), top, stake, top - stake},
	} {
		if kept, rest := grain.Clamp(x.p, x.balance); kept != x.kept || rest != x.rest {
			t.Errorf("%d: %d, %d, want %d, %d of %+v", x.balance, kept, rest, x.kept, x.rest, x.p)
		}
	}
}

// P10.1, P10.2: parameters that aren't right, whichever number of them it is.
func TestWrongParams(t *testing.T) {
	list := marks(simple())
	for _, p := range wrong(t) {
		for _, eff := range list {
			for _, balance := range list {
				refused(t, p, eff, balance)
			}
		}
	}
}

// P10.1, P10.2: all pairs of the numbers at which something changes, held against whole numbers.
func TestAgainstWholeNumbers(t *testing.T) {
	for _, p := range right(t) {
		list := marks(p)
		for _, eff := range list {
			for _, balance := range append(near(p, eff), list...) {
				held(t, p, eff, balance)
			}
		}
	}
}

// small goes through all parameters whose numbers for balances are a few coins.
func small(t *testing.T, each func(p api.Params)) {
	t.Helper()
	count := 0
	for inc := uint64(1); inc <= 3; inc++ {
		for maxEff := inc; maxEff <= 6; maxEff += inc {
			for up := inc; up <= 5; up++ {
				for down := range uint64(6) {
					p := scaled(inc, maxEff, inc, 8, up, down)
					if e := param.Check(p); e != api.OK {
						t.Fatalf("%d of %+v", e, p)
					}
					each(p)
					count++
				}
			}
		}
	}
	if count != 288 {
		t.Fatal(count)
	}
}

// P10.1: whatever the steps and the distances, each effective balance and each balance of a few coins.
func TestSmall(t *testing.T) {
	small(t, func(p api.Params) {
		for eff := range uint64(15) {
			for balance := range uint64(15) {
				held(t, p, eff, balance)
			}
		}
	})
}

// stays asks that what Next answers, Next leaves.
func stays(t *testing.T, p api.Params, eff, balance uint64) {
	t.Helper()
	next := grain.Next(p, eff, balance)
	if got := grain.Next(p, next, balance); got != next {
		t.Fatalf("Next(%d, %d): %d, and then %d of %+v", eff, balance, next, got, p)
	}
}

// goesOn asks that a balance above Floor has an effective balance that fits, from Whole, and from what fitted ahead.
func goesOn(t *testing.T, p api.Params, eff, ahead, balance uint64) {
	t.Helper()
	if balance <= p.Floor || ahead <= p.Floor {
		return
	}
	if whole := grain.Whole(p, balance); !grain.Fits(p, whole, balance) {
		t.Fatalf("Whole(%d): %d doesn't fit of %+v", balance, whole, p)
	}
	if !grain.Fits(p, eff, ahead) {
		return
	}
	if next := grain.Next(p, eff, balance); !grain.Fits(p, next, balance) {
		t.Fatalf("%d fitted %d; Next(%d): %d doesn't fit of %+v", eff, ahead, balance, next, p)
	}
}

// rises asks that what fits a balance never falls where the balance rises.
func rises(t *testing.T, p api.Params, eff, ahead, balance uint64) {
	t.Helper()
	if balance < ahead || !grain.Fits(p, eff, ahead) {
		return
	}
	if next := grain.Next(p, eff, balance); next < eff {
		t.Fatalf("%d fitted %d; Next(%d): %d of %+v", eff, ahead, balance, next, p)
	}
}

// P10.3: of each effective balance and all pairs of balances, one behind the other.
func TestOneBehindTheOther(t *testing.T) {
	look := func(p api.Params, eff uint64, balances []uint64) {
		for _, ahead := range balances {
			stays(t, p, eff, ahead)
			for _, balance := range balances {
				goesOn(t, p, eff, ahead, balance)
				rises(t, p, eff, ahead, balance)
			}
		}
	}
	for _, p := range right(t) {
		for _, eff := range []uint64{0, 1, p.Inc, 2 * p.Inc, p.MaxEff, p.MaxEff + p.Inc, top} {
			look(p, eff, append(near(p, eff), marks(p)...))
		}
	}
	few := []uint64{0, 1, 2, 3, 4, 5, 6, 7, 8, 9, 10, 11}
	small(t, func(p api.Params) {
		for _, eff := range few {
			look(p, eff, few)
		}
	})
}

// anyNumber is a number of up to so many bits, of all lengths alike.
func anyNumber(dice *rand.Rand, bits int) uint64 {
	return dice.Uint64() >> (63 - dice.Intn(bits))
}

// mixed are parameters that are right, with any numbers for balances.
func mixed(t *testing.T, dice *rand.Rand) api.Params {
	t.Helper()
	inc := min(1+anyNumber(dice, 31), api.MaxInc)
	maxEff := inc * (1 + anyNumber(dice, 9))
	floor := inc + anyNumber(dice, 38)
	most := min(max(maxEff, floor)+1+anyNumber(dice, 39), api.MaxStake)
	p := scaled(inc, min(maxEff, most-most%inc), floor, most, min(inc+anyNumber(dice, 39), api.MaxStake), anyNumber(dice, 40))
	if e := param.Check(p); e != api.OK {
		t.Fatalf("%d of %+v", e, p)
	}
	return p
}

// P10.1 to P10.3: mixed parameters, and balances that rise and fall at random, one behind the other.
func TestMixed(t *testing.T) {
	dice := rand.New(rand.NewSource(17))
	for range 1000 {
		p := mixed(t, dice)
		balance := p.Floor + 1 + dice.Uint64()%(p.Cap-p.Floor)
		eff := grain.Whole(p, balance)
		for range 50 {
			ahead := balance
			balance = p.Floor + 1 + dice.Uint64()%(p.Cap-p.Floor)
			held(t, p, eff, balance)
			held(t, p, anyNumber(dice, 64), anyNumber(dice, 64))
			stays(t, p, eff, balance)
			goesOn(t, p, eff, ahead, balance)
			rises(t, p, eff, ahead, balance)
			eff = grain.Next(p, eff, balance)
			if !grain.Fits(p, eff, balance) {
				t.Fatalf("%d doesn't fit %d of %+v", eff, balance, p)
			}
		}
	}
}

// The chapter's examples.
func TestExamples(t *testing.T) {
	if got := grain.Whole(simple(), 27); got != 20 {
		t.Fatal(got)
	}
	follow(t, simple(), []step{{20, 30, 20}, {20, 31, 30}, {30, 24, 20}, {30, 25, 30}})
}
