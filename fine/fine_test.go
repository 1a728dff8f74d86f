package fine_test

import (
	"math"
	"math/big"
	"math/rand"
	"reflect"
	"testing"

	"bullion/api"
	"bullion/fine"
	"bullion/grain"
	"bullion/mode"
	"bullion/param"
	"bullion/score"
)

const top = 1<<64 - 1

// simple are the parameters of the document's examples.
func simple() api.Params {
	return api.Params{
		Inc: 10, MaxEff: 30, Floor: 10, Cap: 40, Up: 10, Down: 5,
		Bias: 4, Quot: 100, BiasEm: 8, QuotEm: 50, Recover: 2, ScoreCap: 100,
		Rate: 1 << 20, Bond: 1, Delay: 2, Streak: 4, Boost: 100, Absent: 100, Burn: 5000,
		Churn: 2, Wait: 2, Poll: 2, Enact: 1, Quorum: 3000,
	}
}

// with are simple parameters with some numbers changed, and right still.
func with(t *testing.T, change func(p *api.Params)) api.Params {
	t.Helper()
	p := simple()
	change(&p)
	if e := param.Check(p); e != api.OK {
		t.Fatalf("%d of %+v", e, p)
	}
	return p
}

// by are parameters with these quotients, which may be as great as they may be, and whose leak is short nonetheless.
func by(t *testing.T, quot, quotEm uint64) api.Params {
	t.Helper()
	return with(t, func(p *api.Params) {
		p.Inc, p.MaxEff, p.Floor, p.Cap = 1, 1, 1, 2
		p.Bias, p.BiasEm, p.ScoreCap = api.MaxBias, api.MaxBias, api.MaxScore
		p.Quot, p.QuotEm = quot, quotEm
	})
}

// rated are parameters with these ten thousandths.
func rated(t *testing.T, absent, burn int) api.Params {
	t.Helper()
	return with(t, func(p *api.Params) { p.Absent, p.Burn = absent, burn })
}

// wide are parameters whose balances and effective balances may be as great as they may be, with these numbers for the leak.
func wide(t *testing.T, inc, bias, quot, quotEm uint64, absent, burn int) api.Params {
	t.Helper()
	return with(t, func(p *api.Params) {
		p.Inc, p.MaxEff, p.Floor, p.Cap, p.Up = inc, api.MaxStake, inc, api.MaxStake, inc
		p.Bias, p.BiasEm, p.Quot, p.QuotEm, p.ScoreCap = bias, bias, quot, quotEm, api.MaxScore
		p.Absent, p.Burn = absent, burn
	})
}

// right are parameters that are right, with all that a fine goes by at its edges.
func right(t *testing.T) []api.Params {
	t.Helper()
	list := []api.Params{
		simple(),
		by(t, 1, 1), by(t, 2, 1), by(t, 3, 2), by(t, 100, 100), by(t, api.MaxQuot-1, 7),
		by(t, api.MaxQuot, 1), by(t, api.MaxQuot, api.MaxQuot-1), by(t, api.MaxQuot, api.MaxQuot),
		wide(t, 1<<20, api.MaxBias, api.MaxQuot, 1, 100, 5000),
		wide(t, 1<<30, api.MaxBias, api.MaxQuot, api.MaxQuot, 10000, 10000),
		wide(t, 1<<31, 1, 1, 1, 1, 1),
		wide(t, 1<<10, 1<<22, 1<<31, 3, 9999, 9999),
		with(t, func(p *api.Params) { p.Quot, p.QuotEm = 40, 40 }),
		with(t, func(p *api.Params) { p.Quot, p.QuotEm = 20, 13 }),
		with(t, func(p *api.Params) { p.Quot, p.QuotEm = 13, 1 }),
		with(t, func(p *api.Params) { p.Bias, p.BiasEm = 8, 8 }),
	}
	for _, rate := range []int{0, 1, 2, 4999, 5000, 5001, 9999, 10000} {
		list = append(list, rated(t, rate, 5000), rated(t, 100, rate), rated(t, rate, api.MaxRate-rate))
	}
	return list
}

// wrong are parameters that aren't right: nothing at all, each number beyond its limit, and what doesn't go together.
func wrong(t *testing.T) []api.Params {
	t.Helper()
	list := []api.Params{{}, {Quot: 100, QuotEm: 50, Absent: 100, Burn: 5000}}
	for i := range reflect.TypeFor[api.Params]().NumField() {
		p := simple()
		if f := reflect.ValueOf(&p).Elem().Field(i); f.CanUint() {
			f.SetUint(top)
		} else {
			f.SetInt(math.MaxInt)
		}
		list = append(list, p)
	}
	for _, spoil := range []func(p *api.Params){
		func(p *api.Params) { p.MaxEff = 31 },
		func(p *api.Params) { p.Floor = p.Cap },
		func(p *api.Params) { p.Bias = 0 },
		func(p *api.Params) { p.Quot = 0 },
		func(p *api.Params) { p.QuotEm = 0 },
		func(p *api.Params) { p.QuotEm = p.Quot + 1 },
		func(p *api.Params) { p.Quot = api.MaxQuot + 1 },
		func(p *api.Params) { p.ScoreCap = 47 },
		func(p *api.Params) { p.Absent = -1 },
		func(p *api.Params) { p.Absent = math.MinInt },
		func(p *api.Params) { p.Absent = api.MaxRate + 1 },
		func(p *api.Params) { p.Burn = -1 },
		func(p *api.Params) { p.Burn = math.MinInt },
		func(p *api.Params) { p.Burn = api.MaxRate + 1 },
		func(p *api.Params) { p.Churn = 0 },
	} {
		p := simple()
		spoil(&p)
		list = append(list, p)
	}
	for _, p := range list {
		if param.Check(p) != api.ErrParam {
			t.Fatalf("it is right: %+v", p)
		}
	}
	return list
}

// modes are all that there are, and numbers that are none.
func modes() []int {
	return []int{
		api.ModeNormal, api.ModeDelay, api.ModeLeak, api.ModeEmergency,
		0, -1, -3, -4, 5, 6, 1<<32 + api.ModeLeak, 1<<32 + api.ModeEmergency, math.MinInt, math.MaxInt,
	}
}

// calm are those of them that don't leak.
func calm() []int {
	var list []int
	for _, mode := range modes() {
		if mode != api.ModeLeak && mode != api.ModeEmergency {
			list = append(list, mode)
		}
	}
	return list
}

// around is each of some numbers, and the one below and the one above it, where there is one.
func around(list ...uint64) []uint64 {
	var all []uint64
	for _, n := range list {
		all = append(all, n)
		if n > 0 {
			all = append(all, n-1)
		}
		if n < top {
			all = append(all, n+1)
		}
	}
	return all
}

// effs and scores are those at which a fine changes its kind.
func effs(p api.Params) []uint64 {
	return append(around(p.Inc, p.MaxEff, p.Quot, 10000, 1<<40), 0, 1, 7, 1<<63, top-1, top)
}

func scores(p api.Params) []uint64 {
	return append(around(p.Bias, p.Quot, p.QuotEm, 1<<56), 0, 1, 1<<24, 1<<63, top-1, top)
}

func num(n uint64) *big.Int { return new(big.Int).SetUint64(n) }

// lostOf is what is lost by parameters that are right, whatever the balance, by the chapter's words, over whole numbers.
func lostOf(p api.Params, s api.Standing, mode int) *big.Int {
	n, rest := new(big.Int), new(big.Int)
	switch mode {
	case 3:
		n.QuoRem(n.Mul(num(s.Eff), num(s.Score)), num(p.Quot), rest)
	case 4:
		n.QuoRem(n.Mul(num(s.Eff), num(s.Score)), num(p.QuotEm), rest)
	default:
		return n.Quo(n.Mul(num(s.Eff), big.NewInt(int64(p.Absent))), big.NewInt(10000))
	}
	if rest.Sign() > 0 {
		n.Add(n, big.NewInt(1))
	}
	return n
}

// fineOf is likewise what is taken.
func fineOf(p api.Params, s api.Standing, mode int) uint64 {
	if n := lostOf(p, s, mode); n.Cmp(num(s.Balance)) < 0 {
		return n.Uint64()
	}
	return s.Balance
}

// splitOf is likewise where a fine goes.
func splitOf(p api.Params, n uint64) (burned, treasury uint64) {
	part := new(big.Int).Mul(num(n), big.NewInt(int64(p.Burn)))
	burned = part.Quo(part, big.NewInt(10000)).Uint64()
	return burned, new(big.Int).Sub(num(n), num(burned)).Uint64()
}

// held asks that all that is answered of parameters that are right is what the chapter's words say.
func held(t *testing.T, p api.Params, s api.Standing, mode int) {
	t.Helper()
	n := fineOf(p, s, mode)
	if got := fine.Of(p, s, mode); got != n {
		t.Fatalf("Of(%+v, %d): %d, want %d of %+v", s, mode, got, n, p)
	}
	divided(t, p, n)
	burned, treasury := splitOf(p, n)
	want := s
	want.Balance = new(big.Int).Sub(num(s.Balance), num(n)).Uint64()
	if got, b, f := fine.Take(p, s, mode); got != want || b != burned || f != treasury {
		t.Fatalf("Take(%+v, %d): %+v, %d, %d; want %+v, %d, %d of %+v", s, mode, got, b, f, want, burned, treasury, p)
	}
}

// divided asks the same of a fine's two parts.
func divided(t *testing.T, p api.Params, n uint64) {
	t.Helper()
	burned, treasury := splitOf(p, n)
	if b, f := fine.Split(p, n); b != burned || f != treasury {
		t.Fatalf("Split(%d): %d, %d; want %d, %d of %+v", n, b, f, burned, treasury, p)
	}
}

// beside are a standing's balances around what it would lose, and far from it.
func beside(p api.Params, s api.Standing, mode int) []uint64 {
	list := []uint64{0, 1, p.Floor, p.Cap, 1 << 63, top}
	if n := lostOf(p, s, mode); n.IsUint64() {
		list = append(list, around(n.Uint64(), n.Uint64()/2)...)
	}
	return list
}

// loss is a product's two numbers, and what of it is lost in ModeLeak, and what in ModeEmergency, where there is balance enough.
type loss struct{ eff, score, leak, emergency uint64 }

func leaked(t *testing.T, p api.Params, list []loss) {
	t.Helper()
	for _, x := range list {
		s := api.Standing{Balance: top, Eff: x.eff, Score: x.score}
		if got := fine.Of(p, s, api.ModeLeak); got != x.leak {
			t.Errorf("%d, %d in the leak: %d, want %d of %+v", x.eff, x.score, got, x.leak, p)
		}
		if got := fine.Of(p, s, api.ModeEmergency); got != x.emergency {
			t.Errorf("%d, %d in the emergency: %d, want %d of %+v", x.eff, x.score, got, x.emergency, p)
		}
	}
}

// P15.1: in a leak the product by Quot, in the emergency by QuotEm, up: without a rest, with a rest of 1, with the greatest one.
func TestLeak(t *testing.T) {
	leaked(t, simple(), []loss{
		{0, 0, 0, 0}, {0, 1, 0, 0}, {1, 0, 0, 0}, {0, top, 0, 0}, {top, 0, 0, 0},
		{1, 1, 1, 1}, {1, 49, 1, 1}, {1, 50, 1, 1}, {1, 51, 1, 2}, {51, 1, 1, 2},
		{1, 99, 1, 2}, {1, 100, 1, 2}, {1, 101, 2, 3}, {10, 10, 1, 2}, {100, 1, 1, 2}, {101, 1, 2, 3},
		{20, 8, 2, 4}, {20, 10, 2, 4}, {3, 67, 3, 5}, {30, 100, 30, 60}, {30, 99, 30, 60}, {30, 97, 30, 59}, {31, 100, 31, 62},
		{1, 199, 2, 4}, {1, 200, 2, 4}, {1, 201, 3, 5}, {7, 43, 4, 7},
	})
}

// P15.1: numbers up to the greatest of their type, and products that have more than 64 bits.
func TestGreatLeak(t *testing.T) {
	leaked(t, simple(), []loss{
		{1, top, top/100 + 1, top/50 + 1}, {top, 1, top/100 + 1, top/50 + 1},
		{100, top, top, top}, {top, 100, top, top}, {50, top, top/2 + 1, top}, {top, 49, top/100*49 + 8, top/50*49 + 15},
		{51, top, top/100*51 + 8, top}, {101, top, top, top}, {top, 101, top, top}, {top, top, top, top},
		{1 << 32, 1 << 32, 184467440737095517, 368934881474191033}, {1 << 63, 2, 184467440737095517, 368934881474191033},
	})
	leaked(t, by(t, api.MaxQuot, 1<<20), []loss{
		{1 << 40, 1 << 56, 1 << 56, top}, {1<<40 - 1, 1 << 56, 1<<56 - 1<<16, top}, {1 << 40, 1<<56 - 1, 1<<56 - 1, top},
		{1<<40 + 1, 1<<56 - 1, 1<<56 + 1<<16 - 1, top}, {1 << 60, 1 << 24, 1 << 44, top}, {1<<32 + 1, 1 << 32, 1<<24 + 1, 1<<44 + 1<<12},
		{1 << 42, 1 << 41, 1 << 43, 1 << 63}, {1 << 42, 1<<41 + 1, 1<<43 + 4, 1<<63 + 1<<22}, {1 << 42, 1<<42 - 1, 1<<44 - 4, top - 1<<22 + 1},
	})
}

// P15.1: a quotient of 1, and the greatest ones that are right.
func TestQuotients(t *testing.T) {
	leaked(t, by(t, 1, 1), []loss{
		{0, 9, 0, 0}, {1, 1, 1, 1}, {7, 9, 63, 63}, {1, top, top, top}, {top, 1, top, top}, {top, 2, top, top},
		{1<<32 - 1, 1<<32 + 1, top, top}, {1 << 32, 1<<32 - 1, top - 1<<32 + 1, top - 1<<32 + 1}, {1 << 32, 1 << 32, top, top}, {1<<32 + 1, 1 << 32, top, top},
	})
	leaked(t, by(t, 2, 1), []loss{{1, 1, 1, 1}, {1, 2, 1, 2}, {1, 3, 2, 3}, {7, 9, 32, 63}, {1, top, 1 << 63, top}, {2, top, top, top}})
	leaked(t, by(t, api.MaxQuot, api.MaxQuot), []loss{
		{0, top, 0, 0}, {1, 1, 1, 1}, {1, 1<<40 - 1, 1, 1}, {1, 1 << 40, 1, 1}, {1, 1<<40 + 1, 2, 2}, {1 << 20, 1 << 20, 1, 1},
		{1 << 40, 1, 1, 1}, {1 << 40, 2, 2, 2}, {1 << 40, top, top, top}, {1<<40 - 1, top, top - 1<<24 + 1, top - 1<<24 + 1}, {1<<40 + 1, top, top, top},
	})
	leaked(t, by(t, api.MaxQuot, 1), []loss{{1, 1, 1, 1}, {1, 7, 1, 7}, {1, top, 1 << 24, top}, {2, top, 1 << 25, top}})
	leaked(t, by(t, api.MaxQuot, api.MaxQuot-1), []loss{{1, 1<<40 - 1, 1, 1}, {1, 1 << 40, 1, 2}, {1 << 39, 2, 1, 2}})
}

// P15.1: in modes that don't leak, and in none, so many ten thousandths of the effective balance, down, whatever the score.
func TestAbsent(t *testing.T) {
	for _, x := range []struct {
		absent    int
		eff, lost uint64
	}{
		{0, 0, 0}, {0, 1, 0}, {0, 10000, 0}, {0, 1 << 40, 0}, {0, top, 0},
		{1, 0, 0}, {1, 1, 0}, {1, 9999, 0}, {1, 10000, 1}, {1, 10001, 1}, {1, 19999, 1}, {1, 20000, 2}, {1, top, top / 10000},
		{100, 20, 0}, {100, 30, 0}, {100, 99, 0}, {100, 100, 1}, {100, 101, 1}, {100, 199, 1}, {100, 200, 2}, {100, 1 << 40, 10995116277}, {100, top, top / 100},
		{5000, 1, 0}, {5000, 2, 1}, {5000, 3, 1}, {5000, top, top / 2},
		{9999, 0, 0}, {9999, 1, 0}, {9999, 2, 1}, {9999, 10000, 9999}, {9999, 10001, 9999}, {9999, 20001, 19998}, {9999, top, top - top/10000 - 1},
		{10000, 0, 0}, {10000, 1, 1}, {10000, 30, 30}, {10000, 1 << 40, 1 << 40}, {10000, 1 << 63, 1 << 63}, {10000, top - 1, top - 1}, {10000, top, top},
	} {
		p := rated(t, x.absent, 5000)
		for _, mode := range calm() {
			for _, n := range []uint64{0, 1, 4, 100, 101, top} {
				s := api.Standing{Balance: top, Eff: x.eff, Score: n, Streak: 3}
				if got := fine.Of(p, s, mode); got != x.lost {
					t.Errorf("%d of %d in %d: %d, want %d", x.absent, x.eff, mode, got, x.lost)
				}
			}
		}
	}
}

// P15.1: what is lost is at most the balance: one less than it, just it, one more, much more.
func TestAtMostTheBalance(t *testing.T) {
	for _, x := range []struct {
		s    api.Standing
		mode int
		lost uint64
	}{
		{api.Standing{Eff: 20, Score: 8}, api.ModeLeak, 2},
		{api.Standing{Eff: 20, Score: 8}, api.ModeEmergency, 4},
		{api.Standing{Eff: 30, Score: 100}, api.ModeLeak, 30},
		{api.Standing{Eff: 30, Score: 100}, api.ModeEmergency, 60},
		{api.Standing{Eff: 1000}, api.ModeNormal, 10},
		{api.Standing{Eff: 1000}, api.ModeDelay, 10},
		{api.Standing{Eff: 1000}, 0, 10},
		{api.Standing{Eff: 100, Score: top - 1}, api.ModeLeak, top - 1},
		{api.Standing{Eff: 50, Score: top - 1}, api.ModeEmergency, top - 1},
	} {
		for _, y := range []struct{ balance, taken uint64 }{
			{0, 0}, {1, 1}, {x.lost - 1, x.lost - 1}, {x.lost, x.lost}, {x.lost + 1, x.lost}, {top, x.lost},
		} {
			s := x.s
			s.Balance = y.balance
			if got := fine.Of(simple(), s, x.mode); got != y.taken {
				t.Errorf("%+v in %d: %d, want %d", s, x.mode, got, y.taken)
			}
		}
	}
}

// P15.1: where far more would be lost, also more than a word has room for, all of the balance is, and nothing of a balance of 0.
func TestMuchMoreThanTheBalance(t *testing.T) {
	for _, x := range [][2]uint64{{101, top}, {top, 101}, {1 << 63, 200}, {1 << 40, 1 << 56}, {top, top}} {
		for _, mode := range []int{api.ModeLeak, api.ModeEmergency} {
			for _, balance := range []uint64{0, 1, 10, 40, 999, 1 << 40, 1 << 63, top - 1, top} {
				s := api.Standing{Balance: balance, Eff: x[0], Score: x[1]}
				if got := fine.Of(simple(), s, mode); got != balance {
					t.Errorf("%+v in %d: %d", s, mode, got)
				}
			}
		}
	}
	all := rated(t, api.MaxRate, 0)
	for _, eff := range []uint64{40, 41, 1 << 40, top} {
		for _, mode := range calm() {
			for _, balance := range []uint64{0, 1, 39, 40} {
				if got := fine.Of(all, api.Standing{Balance: balance, Eff: eff}, mode); got != balance {
					t.Errorf("%d of %d in %d: %d", eff, balance, mode, got)
				}
			}
		}
	}
}

// P15.1: a streak doesn't matter to a fine.
func TestStreakDoesNotMatter(t *testing.T) {
	for _, mode := range modes() {
		s := api.Standing{Balance: 4000, Eff: 3000, Score: 5}
		want := fine.Of(simple(), s, mode)
		for _, streak := range []int{math.MinInt, -1, 1, 4, 5, api.MaxStreak, math.MaxInt} {
			s.Streak = streak
			if got := fine.Of(simple(), s, mode); got != want {
				t.Errorf("%+v in %d: %d, want %d", s, mode, got, want)
			}
		}
	}
}

// P15.2: so many ten thousandths of a fine are burned, down, the rest goes to the treasury.
func TestSplit(t *testing.T) {
	for _, x := range []struct {
		burn                   int
		fine, burned, treasury uint64
	}{
		{0, 0, 0, 0}, {0, 1, 0, 1}, {0, 3, 0, 3}, {0, top, 0, top},
		{1, 0, 0, 0}, {1, 1, 0, 1}, {1, 9999, 0, 9999}, {1, 10000, 1, 9999}, {1, 10001, 1, 10000}, {1, top, top / 10000, top - top/10000},
		{5000, 0, 0, 0}, {5000, 1, 0, 1}, {5000, 2, 1, 1}, {5000, 3, 1, 2}, {5000, 4, 2, 2}, {5000, top - 1, top / 2, top / 2}, {5000, top, top / 2, 1 << 63},
		{9999, 0, 0, 0}, {9999, 1, 0, 1}, {9999, 2, 1, 1}, {9999, 10000, 9999, 1}, {9999, 10001, 9999, 2}, {9999, top, top - top/10000 - 1, top/10000 + 1},
		{10000, 0, 0, 0}, {10000, 1, 1, 0}, {10000, 3, 3, 0}, {10000, 1 << 63, 1 << 63, 0}, {10000, top, top, 0},
	} {
		if burned, treasury := fine.Split(rated(t, 100, x.burn), x.fine); burned != x.burned || treasury != x.treasury {
			t.Errorf("%d of %d: %d, %d; want %d, %d", x.burn, x.fine, burned, treasury, x.burned, x.treasury)
		}
	}
}

// P15.2, P15.3: each rate by fines of all sizes; both parts are together the fine.
func TestSplitAgainstWholeNumbers(t *testing.T) {
	fines := append(around(0, 2, 5000, 10000, 1<<40, 1<<62, 1<<63, top), 3, 7, 99, 12345)
	for burn := range api.MaxRate + 1 {
		p := rated(t, 0, burn)
		for _, n := range fines {
			divided(t, p, n)
			burned, treasury := fine.Split(p, n)
			if sum := new(big.Int).Add(num(burned), num(treasury)); sum.Cmp(num(n)) != 0 {
				t.Fatalf("%d of %d: %d, %d", burn, n, burned, treasury)
			}
		}
	}
}

// P15.2: a standing with so much less of balance, and where that goes.
func TestTake(t *testing.T) {
	for _, x := range []struct {
		s                      api.Standing
		mode                   int
		left, burned, treasury uint64
	}{
		{api.Standing{Balance: 25, Eff: 20, Score: 8}, api.ModeLeak, 23, 1, 1},
		{api.Standing{Balance: 25, Eff: 20, Score: 12}, api.ModeLeak, 22, 1, 2},
		{api.Standing{Balance: 25, Eff: 20, Score: 8}, api.ModeEmergency, 21, 2, 2},
		{api.Standing{Balance: 25, Eff: 20, Score: 8}, api.ModeNormal, 25, 0, 0},
		{api.Standing{Balance: 2500, Eff: 300, Score: 8}, api.ModeDelay, 2497, 1, 2},
		{api.Standing{Balance: 2, Eff: 300}, api.ModeDelay, 0, 1, 1},
		{api.Standing{Balance: 1, Eff: 30, Score: 9}, api.ModeLeak, 0, 0, 1},
		{api.Standing{Balance: 3, Eff: 30, Score: 10}, api.ModeLeak, 0, 1, 2},
		{api.Standing{Balance: 4, Eff: 30, Score: 10}, api.ModeLeak, 1, 1, 2},
		{api.Standing{Eff: 30, Score: 100}, api.ModeLeak, 0, 0, 0},
		{api.Standing{Balance: top, Eff: top, Score: top}, api.ModeLeak, 0, top / 2, 1 << 63},
		{api.Standing{Balance: top, Eff: top, Score: 99}, api.ModeEmergency, 0, top / 2, 1 << 63},
		{api.Standing{}, api.ModeEmergency, 0, 0, 0},
	} {
		want := x.s
		want.Balance = x.left
		if got, burned, treasury := fine.Take(simple(), x.s, x.mode); got != want || burned != x.burned || treasury != x.treasury {
			t.Errorf("%+v in %d: %+v, %d, %d; want %+v, %d, %d", x.s, x.mode, got, burned, treasury, want, x.burned, x.treasury)
		}
	}
}

// P15.2: what else a standing has stays as it was, whatever it is.
func TestTakeLeavesTheRest(t *testing.T) {
	for _, mode := range modes() {
		for _, eff := range []uint64{0, 1, 10, 30, 31, 1 << 40, top} {
			for _, n := range []uint64{0, 1, 4, 99, 100, 101, 1 << 56, top} {
				for _, streak := range []int{math.MinInt, -1, 0, 1, 4, 5, math.MaxInt} {
					s := api.Standing{Balance: 38, Eff: eff, Score: n, Streak: streak}
					got, _, _ := fine.Take(simple(), s, mode)
					got.Balance = 38
					if got != s {
						t.Fatalf("%+v in %d: %+v", s, mode, got)
					}
				}
			}
		}
	}
}

// P15.1, P15.2: all products by all balances around what is lost, in each mode, held against whole numbers.
func TestAgainstWholeNumbers(t *testing.T) {
	for _, p := range right(t) {
		for _, eff := range effs(p) {
			for _, n := range scores(p) {
				for _, mode := range modes()[:5] {
					s := api.Standing{Eff: eff, Score: n, Streak: 2}
					for _, s.Balance = range beside(p, s, mode) {
						held(t, p, s, mode)
					}
				}
			}
		}
	}
}

// P15.1, P15.2: few of everything.
func TestSmall(t *testing.T) {
	for quot := uint64(1); quot <= 12; quot++ {
		p := with(t, func(p *api.Params) { p.Quot, p.QuotEm, p.Absent = quot, (quot+1)/2, int(quot*800) })
		for eff := range uint64(13) {
			for n := range uint64(13) {
				for balance := range uint64(20) {
					for _, mode := range modes()[:5] {
						held(t, p, api.Standing{Balance: balance, Eff: eff, Score: n}, mode)
					}
				}
			}
		}
	}
}

// P15.1, P15.2: of parameters that aren't right nothing is lost, nothing goes anywhere, and a standing stays what it was.
func TestWrongParams(t *testing.T) {
	for _, p := range wrong(t) {
		for _, s := range []api.Standing{
			{}, {Balance: 25, Eff: 20, Score: 8, Streak: 2}, {Balance: 40, Eff: 30, Score: 100}, {Balance: 1, Eff: 1 << 40, Score: 1 << 56},
			{Balance: top, Eff: top, Score: top, Streak: math.MaxInt}, {Streak: math.MinInt},
		} {
			for _, mode := range modes() {
				if got := fine.Of(p, s, mode); got != 0 {
					t.Errorf("%+v in %d: %d of %+v", s, mode, got, p)
				}
				if got, burned, treasury := fine.Take(p, s, mode); got != s || burned != 0 || treasury != 0 {
					t.Errorf("%+v in %d: %+v, %d, %d of %+v", s, mode, got, burned, treasury, p)
				}
			}
		}
		for _, n := range []uint64{0, 1, 2, 3, 10000, 1 << 63, top} {
			if burned, treasury := fine.Split(p, n); burned != 0 || treasury != 0 {
				t.Errorf("%d: %d, %d of %+v", n, burned, treasury, p)
			}
		}
	}
}

// taken is what Take takes, if that is what is burned and what goes to the treasury, what Of says, and no more than there is.
func taken(t *testing.T, p api.Params, s api.Standing, mode int) uint64 {
	t.Helper()
	after, burned, treasury := fine.Take(p, s, mode)
	whole := new(big.Int).Sub(num(s.Balance), num(after.Balance))
	if whole.Sign() < 0 || whole.Cmp(new(big.Int).Add(num(burned), num(treasury))) != 0 {
		t.Fatalf("%+v in %d: %+v, %d, %d of %+v", s, mode, after, burned, treasury, p)
	}
	if got := fine.Of(p, s, mode); num(got).Cmp(whole) != 0 || got > s.Balance {
		t.Fatalf("%+v in %d: %d is taken, and %d is lost of %+v", s, mode, whole, got, p)
	}
	return whole.Uint64()
}

// P15.3: what is taken is what is burned and what goes to the treasury, and never more than there is.
func TestTakenIsWhatGoes(t *testing.T) {
	for _, p := range append(right(t), wrong(t)...) {
		for _, eff := range []uint64{0, 1, 10, 30, 1 << 40, top} {
			for _, n := range []uint64{0, 1, 4, 100, 1 << 56, top} {
				for _, mode := range modes() {
					for _, balance := range []uint64{0, 1, 2, 3, 29, 40, 1 << 40, 1 << 63, top} {
						taken(t, p, api.Standing{Balance: balance, Eff: eff, Score: n}, mode)
					}
				}
			}
		}
	}
}

// P15.3: in a leak, with a score of at least Bias and an effective balance of at least Inc, what is taken is at least layer 7's Least, or all.
func TestLeast(t *testing.T) {
	for _, p := range right(t) {
		least, e := param.Least(p)
		if e != api.OK {
			t.Fatal(e)
		}
		for _, eff := range append(around(p.Inc), p.MaxEff, top) {
			for _, n := range append(around(p.Bias), p.BiasEm, p.ScoreCap, top) {
				for _, balance := range append(around(least), 0, p.Floor, p.Cap, top) {
					atLeast(t, p, api.Standing{Balance: balance, Eff: eff, Score: n}, least)
				}
			}
		}
	}
}

func atLeast(t *testing.T, p api.Params, s api.Standing, least uint64) {
	t.Helper()
	for _, mode := range []int{api.ModeLeak, api.ModeEmergency} {
		got := taken(t, p, s, mode)
		if s.Score >= p.Bias && s.Eff >= p.Inc && got < min(least, s.Balance) {
			t.Fatalf("%+v in %d: %d, less than %d of %+v", s, mode, got, least, p)
		}
		if mode == api.ModeLeak && s.Score <= p.Bias && s.Eff <= p.Inc && got > least {
			t.Fatalf("%+v: %d, more than %d of %+v", s, got, least, p)
		}
	}
	if s.Score == p.Bias && s.Eff == p.Inc && taken(t, p, s, api.ModeLeak) != min(least, s.Balance) {
		t.Fatalf("%+v: not %d of %+v", s, least, p)
	}
}

// P15.3: just Bias and just Inc, one more and one less of each, with a balance below the least, just it, and above it.
func TestLeastOfNumbers(t *testing.T) {
	p := with(t, func(p *api.Params) { p.Quot, p.QuotEm = 5, 4 })
	if least, e := param.Least(p); least != 8 || e != api.OK {
		t.Fatal(least, e)
	}
	for _, x := range []struct{ balance, eff, score, leak, emergency uint64 }{
		{40, 10, 4, 8, 10}, {40, 10, 5, 10, 13}, {40, 11, 4, 9, 11}, {40, 11, 5, 11, 14},
		{40, 10, 3, 6, 8}, {40, 9, 4, 8, 9}, {40, 9, 3, 6, 7}, {40, 8, 4, 7, 8},
		{0, 10, 4, 0, 0}, {7, 10, 4, 7, 7}, {8, 10, 4, 8, 8}, {9, 10, 4, 8, 9}, {10, 10, 4, 8, 10}, {11, 10, 4, 8, 10},
	} {
		s := api.Standing{Balance: x.balance, Eff: x.eff, Score: x.score}
		if leak, emergency := taken(t, p, s, api.ModeLeak), taken(t, p, s, api.ModeEmergency); leak != x.leak || emergency != x.emergency {
			t.Errorf("%+v: %d, %d; want %d, %d", s, leak, emergency, x.leak, x.emergency)
		}
	}
}

// P15.1 to P15.3: mixed parameters and standings, of numbers of all lengths.
func TestMixed(t *testing.T) {
	dice := rand.New(rand.NewSource(15))
	any := func(most uint64) uint64 { return min(dice.Uint64()>>dice.Intn(64), most) }
	for range 4000 {
		quot := 1 + any(api.MaxQuot-1)
		p := by(t, quot, 1+any(quot-1))
		p.Absent, p.Burn = dice.Intn(api.MaxRate+1), dice.Intn(api.MaxRate+1)
		least, e := param.Least(p)
		if e != api.OK {
			t.Fatalf("%d of %+v", e, p)
		}
		s := api.Standing{Eff: any(top), Score: any(top), Streak: dice.Intn(70) - 3}
		for _, mode := range modes()[:7] {
			for _, s.Balance = range append(beside(p, s, mode), any(top)) {
				held(t, p, s, mode)
			}
		}
		atLeast(t, p, s, least)
		divided(t, p, any(top))
	}
}

// Rule 5: what is answered hangs on the arguments alone, not on what was asked ahead.
func TestAskedAgain(t *testing.T) {
	s := api.Standing{Balance: 25, Eff: 20, Score: 12, Streak: 3}
	for range 3 {
		for _, other := range []api.Params{{}, by(t, 1, 1), rated(t, api.MaxRate, api.MaxRate)} {
			for _, mode := range modes() {
				fine.Of(other, s, mode)
				fine.Take(other, s, mode)
			}
			fine.Split(other, top)
			p := simple()
			after, burned, treasury := fine.Take(p, s, api.ModeLeak)
			if after != (api.Standing{Balance: 22, Eff: 20, Score: 12, Streak: 3}) || burned != 1 || treasury != 2 || fine.Of(p, s, api.ModeLeak) != 3 {
				t.Error(after, burned, treasury)
			}
			if p != simple() || s != (api.Standing{Balance: 25, Eff: 20, Score: 12, Streak: 3}) {
				t.Errorf("%+v, %+v", p, s)
			}
		}
	}
}

// The chapter's examples.
func TestExamples(t *testing.T) {
	if got := fine.Of(simple(), api.Standing{Balance: 25, Eff: 20, Score: 8}, api.ModeLeak); got != 2 {
		t.Error(got)
	}
	if burned, treasury := fine.Split(simple(), 3); burned != 1 || treasury != 2 {
		t.Error(burned, treasury)
	}
}

// The document's examples of the whole: who is away from the beginning on leaks in the third tick, and is down at Floor within fifteen.
func TestExamplesOfTheWhole(t *testing.T) {
	p := simple()
	s, calm, ticks := api.Standing{Balance: 40, Eff: 30}, 0, 0
	for ; s.Balance > p.Floor; ticks++ {
		calm, _ = mode.Step(p, calm, 20, 20+s.Eff)
		now := mode.Of(p, calm, false)
		if (now == api.ModeLeak) != (ticks >= 2) || now != api.ModeLeak && s.Balance != 40 {
			t.Fatalf("tick %d in %d: %+v", ticks+1, now, s)
		}
		s = score.After(p, s, false, now)
		s, _, _ = fine.Take(p, s, now)
		s.Eff = grain.Next(p, s.Eff, s.Balance)
	}
	if ticks > 15 {
		t.Errorf("it lasts %d ticks", ticks)
	}
}
