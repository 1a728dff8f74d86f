package budget_test

import (
	"math"
	"math/big"
	"math/rand"
	"reflect"
	"testing"

	"bullion/api"
	"bullion/budget"
	"bullion/param"
)

const top = 1<<64 - 1

// simple are the parameters of the document's examples.
func simple() api.Params {
	return api.Params{
		Inc: 10, MaxEff: 30, Floor: 10, Cap: 40, Up: 10, Down: 5,
		Bias: 4, Quot: 100, BiasEm: 8, QuotEm: 50, Recover: 2, ScoreCap: 100,
		Rate: 1 << 20, Bond: 1, Delay: 2, Streak: 4, Boost: 100, Absent: 100, Burn: 5000,
		Churn: 2, Wait: 2, Poll: 2, Enact: 1, Quorum: 3000,
	}
}

// rated are simple parameters with this rate, which are right.
func rated(t *testing.T, rate uint64) api.Params {
	t.Helper()
	p := simple()
	p.Rate = rate
	if e := param.Check(p); e != api.OK {
		t.Fatalf("%d of the rate %d", e, rate)
	}
	return p
}

// wrong are parameters that aren't right: nothing at all, each number beyond its limit, and what doesn't go together.
func wrong(t *testing.T) []api.Params {
	t.Helper()
	list := []api.Params{{}, {Rate: 1 << 20}}
	for i := range reflect.TypeFor[api.Params]().NumField() {
		p := simple()
		if f := reflect.ValueOf(&p).Elem().Field(i); f.CanUint() {
			f.SetUint(top)
		} else {
			f.SetInt(math.MaxInt)
		}
		list = append(list, p)
	}
	for _, spoil := range []func(p *api.Params){
		func(p *api.Params) { p.Rate = api.MaxIssue + 1 },
		func(p *api.Params) { p.MaxEff = 31 },
		func(p *api.Params) { p.Floor = p.Cap },
		func(p *api.Params) { p.Bias = 0 },
		func(p *api.Params) { p.ScoreCap = 47 },
		func(p *api.Params) { p.Churn = 0 },
		func(p *api.Params) { p.Wait = -1 },
	} {
		p := simple()
		spoil(&p)
		list = append(list, p)
	}
	for _, p := range list {
		if param.Check(p) != api.ErrParam {
			t.Fatalf("it is right: %+v", p)
		}
	}
	return list
}

// around is each of some numbers, and the one below and the one above it, where there is one.
func around(list ...uint64) []uint64 {
	var all []uint64
	for _, n := range list {
		all = append(all, n)
		if n > 0 {
			all = append(all, n-1)
		}
		if n < top {
			all = append(all, n+1)
		}
	}
	return all
}

// rates are those at which a budget changes its kind, and those around them, all of them right.
func rates() []uint64 {
	var list []uint64
	for _, n := range around(0, 1, 2, 1<<10, 1<<19, 1<<20, 3<<20, 1<<31, api.MaxIssue) {
		if n <= api.MaxIssue {
			list = append(list, n)
		}
	}
	return list
}

// actives are what may be active: small numbers, squares and what is around them, and what is beyond all money.
func actives() []uint64 {
	var list []uint64
	for n := range uint64(300) {
		list = append(list, n)
	}
	for _, r := range []uint64{99, 100, 1000, 1<<16 - 1, 1 << 16, 1<<20 - 1, 1 << 20, 1<<20 + 1, 999999999, 1<<31 - 1, 1 << 31} {
		list = append(list, around(r*r)...)
	}
	return append(list, around(api.MaxStake, api.MaxMembers*api.MaxStake, 1<<61, api.MaxMoney, 1<<63, 3<<62, (1<<32-1)*(1<<32-1), top)...)
}

// modes are all that there are, and numbers that are none.
func modes() []int {
	return []int{
		api.ModeNormal, api.ModeDelay, api.ModeLeak, api.ModeEmergency,
		0, -1, -3, -4, 5, 6, 1<<32 + api.ModeLeak, 1<<32 + api.ModeEmergency, math.MinInt, math.MaxInt,
	}
}

// leaks says whether a tick in a mode leaks, by the document's words.
func leaks(m int) bool { return m == api.ModeLeak || m == api.ModeEmergency }

func num(n uint64) *big.Int { return new(big.Int).SetUint64(n) }

// budgetOf is a budget of parameters that are right, by the chapter's words, over whole numbers.
func budgetOf(rate, active uint64) uint64 {
	if active == 0 || active > 1<<62 {
		return 0
	}
	by := new(big.Int).Sqrt(num(active))
	by.Mul(by, big.NewInt(1<<20))
	n := new(big.Int).Mul(num(active), num(rate))
	return n.Div(n, by).Uint64()
}

// mintOf is what is issued, by the chapter's words, over whole numbers.
func mintOf(budget, issued, most uint64, mode int) uint64 {
	both := new(big.Int).Add(num(issued), num(budget))
	if leaks(mode) || both.Cmp(num(most)) > 0 {
		return 0
	}
	return budget
}

func budgeted(t *testing.T, p api.Params, active uint64) {
	t.Helper()
	if got, want := budget.Of(p, active), budgetOf(p.Rate, active); got != want {
		t.Fatalf("of %d at the rate %d: %d, want %d", active, p.Rate, got, want)
	}
}

func minted(t *testing.T, p api.Params, active, issued, most uint64, mode int) {
	t.Helper()
	want := mintOf(budgetOf(p.Rate, active), issued, most, mode)
	if got := budget.Mint(p, active, issued, most, mode); got != want {
		t.Fatalf("of %d at the rate %d, with %d issued of %d, in the mode %d: %d, want %d", active, p.Rate, issued, most, mode, got, want)
	}
}

// P13.1: nothing of nothing, nor of more than all money.
func TestNothing(t *testing.T) {
	for _, rate := range rates() {
		p := rated(t, rate)
		for _, active := range []uint64{0, api.MaxMoney + 1, api.MaxMoney + 2, 1<<63 - 1, 1 << 63, 3 << 62, top - 1, top} {
			if got := budget.Of(p, active); got != 0 {
				t.Errorf("of %d at the rate %d: %d", active, rate, got)
			}
		}
	}
}

// P13.1: at the rate of 1 it is what is active by its root, down.
func TestOfWhole(t *testing.T) {
	p := rated(t, 1<<20)
	for _, x := range []struct{ active, want uint64 }{
		{1, 1}, {2, 2}, {3, 3}, {4, 2}, {5, 2}, {6, 3}, {7, 3}, {8, 4}, {9, 3}, {10, 3}, {11, 3}, {12, 4}, {15, 5}, {16, 4},
		{24, 6}, {25, 5}, {26, 5}, {50, 7}, {99, 11}, {100, 10}, {101, 10}, {109, 10}, {110, 11},
		{1<<40 - 1, 1<<20 + 1}, {1 << 40, 1 << 20}, {1<<40 + 1, 1 << 20},
		{1<<62 - 1, 1<<31 + 1}, {1 << 62, 1 << 31},
	} {
		if got := budget.Of(p, x.active); got != x.want {
			t.Errorf("of %d: %d, want %d", x.active, got, x.want)
		}
	}
}

// P13.1: at the least rates and the greatest ones; a rate of 0 is right, and nothing is issued at it.
func TestRates(t *testing.T) {
	for _, x := range []struct{ rate, active, want uint64 }{
		{0, 1, 0}, {0, 100, 0}, {0, 1 << 62, 0},
		{1, 1, 0}, {1, 100, 0}, {1, 1<<40 - 1, 1}, {1, 1 << 40, 1}, {1, 1<<40 - 1<<20, 1}, {1, 1<<40 - 1<<20 - 1, 0}, {1, 1 << 38, 0}, {1, 1 << 62, 1 << 11},
		{2, 1 << 40, 2}, {3, 1 << 40, 3}, {1<<20 - 1, 1, 0}, {1<<20 - 1, 100, 9}, {1<<20 + 1, 100, 10}, {1 << 19, 100, 5}, {3 << 19, 100, 15},
		{1 << 32, 1, 1 << 12}, {1 << 32, 2, 1 << 13}, {1 << 32, 3, 3 << 12}, {1 << 32, 4, 1 << 13}, {1 << 32, 100, 10 << 12},
		{1<<32 - 1, 1, 1<<12 - 1}, {1<<32 - 1, 1 << 62, 1<<43 - 1<<11}, {1 << 32, 1<<62 - 1, 1<<43 + 1<<12}, {1 << 32, 1 << 62, 1 << 43},
	} {
		if got := budget.Of(rated(t, x.rate), x.active); got != x.want {
			t.Errorf("of %d at the rate %d: %d, want %d", x.active, x.rate, got, x.want)
		}
	}
}

// P13.1: all rates by all that is active, held against whole numbers; the root goes on top of the fraction, and is not of it.
func TestOfAgainstWholeNumbers(t *testing.T) {
	for _, rate := range rates() {
		p := rated(t, rate)
		for _, active := range actives() {
			budgeted(t, p, active)
		}
	}
	p := rated(t, 1<<20)
	for active := range uint64(20000) {
		budgeted(t, p, active)
	}
}

// P13.1, P13.2: of parameters that aren't right nothing, whatever is active.
func TestWrongParams(t *testing.T) {
	for _, p := range wrong(t) {
		for _, active := range actives() {
			if got := budget.Of(p, active); got != 0 {
				t.Fatalf("of %d: %d of %+v", active, got, p)
			}
			for _, mode := range modes() {
				if got := budget.Mint(p, active, 0, top, mode); got != 0 {
					t.Fatalf("of %d in the mode %d: %d of %+v", active, mode, got, p)
				}
			}
		}
	}
}

// P13.1: of all parameters that are right the rate alone matters.
func TestRateAlone(t *testing.T) {
	p := api.Params{
		Inc: 1, MaxEff: 1, Floor: 1, Cap: 2, Up: 1, Bias: 1, Quot: 1, BiasEm: 1, QuotEm: 1, ScoreCap: 1,
		Rate: 3 << 20, Churn: 1, Poll: 1,
	}
	if e := param.Check(p); e != api.OK {
		t.Fatal(e)
	}
	for _, active := range actives() {
		budgeted(t, p, active)
		minted(t, p, active, 0, top, api.ModeNormal)
	}
}

// P13.2: a mode that leaks mints nothing; each other number mints, whether it is a mode or none.
func TestModes(t *testing.T) {
	p := rated(t, 1<<20)
	for _, mode := range modes() {
		want := uint64(10)
		if leaks(mode) {
			want = 0
		}
		if got := budget.Mint(p, 100, 700, 800, mode); got != want {
			t.Errorf("in the mode %d: %d, want %d", mode, got, want)
		}
	}
	for mode := -300; mode <= 300; mode++ {
		minted(t, p, 100, 700, 800, mode)
	}
}

// P13.2: what is issued and the budget together may be just most, and not one above it; then nothing is minted, not even a part.
func TestMost(t *testing.T) {
	p := rated(t, 1<<20)
	for _, x := range []struct{ active, issued, most, want uint64 }{
		{100, 0, 0, 0}, {100, 0, 1, 0}, {100, 0, 9, 0}, {100, 0, 10, 10}, {100, 0, 11, 10},
		{100, 1, 0, 0}, {100, 1, 10, 0}, {100, 1, 11, 10}, {100, 755, 764, 0}, {100, 755, 765, 10}, {100, 755, 766, 10},
		{100, 765, 765, 0}, {100, 766, 765, 0}, {100, 1000, 765, 0},
		{100, top, 0, 0}, {100, top, 9, 0}, {100, top, top - 1, 0}, {100, top, top, 0}, {100, top - 9, top, 0}, {100, top - 9, 0, 0}, {100, top - 9, 1, 0},
		{100, top - 10, top, 10}, {100, top - 10, top - 1, 0}, {100, top - 11, top, 10}, {100, top - 11, top - 1, 10}, {100, 0, top, 10},
		{100, 1<<63 - 10, 1 << 63, 10}, {100, 1<<63 - 9, 1 << 63, 0}, {100, 1 << 63, 1 << 63, 0}, {100, 1<<62 - 10, 1 << 62, 10}, {100, 1<<62 - 9, 1 << 62, 0},
		// Nothing at all is always within what there may be, and is nothing where it isn't.
		{0, 0, 0, 0}, {0, 5, 4, 0}, {0, 5, 5, 0}, {0, 5, 6, 0}, {0, top, top, 0}, {0, top, 0, 0}, {top, 5, 100, 0}, {1<<62 + 1, 0, top, 0},
		{1 << 62, 0, 1<<31 - 1, 0}, {1 << 62, 0, 1 << 31, 1 << 31}, {1 << 62, top, 1<<31 - 1, 0}, {1 << 62, top, 1 << 31, 0},
	} {
		if got := budget.Mint(p, x.active, x.issued, x.most, api.ModeNormal); got != x.want {
			t.Errorf("of %d, with %d issued of %d: %d, want %d", x.active, x.issued, x.most, got, x.want)
		}
	}
}

// P13.2: all that is active and issued, with the most around both together, in each mode, held against whole numbers.
func TestMintAgainstWholeNumbers(t *testing.T) {
	for _, rate := range []uint64{0, 1, 1 << 20, 3 << 20, api.MaxIssue} {
		p := rated(t, rate)
		for _, active := range []uint64{0, 1, 2, 3, 4, 99, 100, 101, 1 << 40, 1 << 62, 1<<62 + 1, top} {
			own := budgetOf(rate, active)
			for _, issued := range around(0, 1, own, 765, 1<<62, 1<<63, top-own, top) {
				for _, most := range around(0, own, issued, issued+own, 1<<62, 1<<63, top) {
					for _, mode := range modes() {
						minted(t, p, active, issued, most, mode)
					}
				}
			}
		}
	}
}

// P13.3: it never falls from a rate to the next one, and is never above what is active by the rate, up.
func TestRising(t *testing.T) {
	for _, active := range actives() {
		for _, rate := range rates() {
			n := budget.Of(rated(t, rate), active)
			if rate < api.MaxIssue {
				if next := budget.Of(rated(t, rate+1), active); next < n {
					t.Fatalf("of %d: %d at the rate %d, and %d at the next one", active, n, rate, next)
				}
			}
			most := new(big.Int).Mul(num(active), num(rate))
			most.Add(most, num(1<<20-1)).Div(most, num(1<<20))
			if num(n).Cmp(most) > 0 {
				t.Fatalf("of %d at the rate %d: %d, above %s", active, rate, n, most)
			}
		}
	}
}

// P13.3: likewise through many rates in a row, and through steps of them.
func TestRisingOn(t *testing.T) {
	for _, active := range []uint64{1, 2, 3, 50, 99, 100, 101, 1 << 20, 1<<40 - 1, 1 << 40, 1<<62 - 1, 1 << 62} {
		for _, step := range []uint64{1, 7, 1 << 10, 1<<20 + 1} {
			last := uint64(0)
			for i := range uint64(2000) {
				n := budget.Of(rated(t, i*step), active)
				if n < last {
					t.Fatalf("of %d at the rate %d: %d, behind %d", active, i*step, n, last)
				}
				last = n
			}
		}
	}
}

// P13.1 to P13.3: mixed numbers of all lengths.
func TestMixed(t *testing.T) {
	dice := rand.New(rand.NewSource(13))
	any := func() uint64 { return dice.Uint64() >> dice.Intn(64) }
	for range 30000 {
		p := rated(t, any()%(api.MaxIssue+1))
		active, issued, mode := any(), any(), dice.Intn(6)
		own := budgetOf(p.Rate, active)
		budgeted(t, p, active)
		for _, most := range append(around(issued+own), any(), top) {
			minted(t, p, active, issued, most, mode)
		}
	}
}

// The chapter's examples, at the rate that they name.
func TestExamples(t *testing.T) {
	p := rated(t, 1<<20)
	for _, x := range []struct{ active, want uint64 }{{100, 10}, {0, 0}, {2, 2}} {
		if got := budget.Of(p, x.active); got != x.want {
			t.Errorf("of %d: %d, want %d", x.active, got, x.want)
		}
	}
}

// The document's examples of the whole: of 20 and 30 at stake 7 are minted, with a quorum or without one, and nothing where it leaks.
func TestExamplesOfTheWhole(t *testing.T) {
	p := simple()
	for mode, want := range map[int]uint64{api.ModeNormal: 7, api.ModeDelay: 7, api.ModeLeak: 0, api.ModeEmergency: 0} {
		if got := budget.Mint(p, 50, 765, 1<<30, mode); got != want {
			t.Errorf("in the mode %d: %d, want %d", mode, got, want)
		}
	}
}
