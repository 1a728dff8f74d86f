package score_test

import (
	"math"
	"math/big"
	"math/rand"
	"reflect"
	"testing"

	"bullion/api"
	"bullion/param"
	"bullion/score"
)

const top = 1<<64 - 1

// simple are the parameters of the document's examples.
func simple() api.Params {
	return api.Params{
		Inc: 10, MaxEff: 30, Floor: 10, Cap: 40, Up: 10, Down: 5,
		Bias: 4, Quot: 100, BiasEm: 8, QuotEm: 50, Recover: 2, ScoreCap: 100,
		Rate: 1 << 20, Bond: 1, Delay: 2, Streak: 4, Boost: 100, Absent: 100, Burn: 5000,
		Churn: 2, Wait: 2, Poll: 2, Enact: 1, Quorum: 3000,
	}
}

// counted are parameters with these numbers for scores, whose leak is over in one tick.
func counted(bias, biasEm, less, most uint64, streak int) api.Params {
	p := simple()
	p.Inc, p.MaxEff, p.Floor, p.Cap, p.Quot, p.QuotEm = 1, 1, 1, 2, 1, 1
	p.Bias, p.BiasEm, p.Recover, p.ScoreCap, p.Streak = bias, biasEm, less, most, streak
	return p
}

// right are parameters that are right, with all that a score and a streak go by at its edges.
func right(t *testing.T) []api.Params {
	t.Helper()
	list := []api.Params{
		simple(),
		counted(1, 1, 0, 1, 0),
		counted(1, 1, 1, 1, 1),
		counted(1, 2, 3, 2, 2),
		counted(3, 8, 5, 3, 4),
		counted(3, 8, 5, 7, 4),
		counted(3, 8, 5, 8, 4),
		counted(3, 8, 5, 9, 4),
		counted(5, 5, 9, 1000, api.MaxStreak-1),
		counted(1, api.MaxBias, 0, 1, 1),
		counted(1, api.MaxBias, api.MaxBias, api.MaxScore, api.MaxStreak),
		counted(api.MaxBias, api.MaxBias, api.MaxBias, api.MaxBias, api.MaxStreak),
		counted(api.MaxBias, api.MaxBias, 0, api.MaxScore, 0),
	}
	for _, p := range list {
		if e := param.Check(p); e != api.OK {
			t.Fatalf("%d of %+v", e, p)
		}
	}
	return list
}

// spoilt are simple parameters whose i-th number is the greatest that its type has, which is beyond all limits.
func spoilt(i int) api.Params {
	p := simple()
	if f := reflect.ValueOf(&p).Elem().Field(i); f.CanUint() {
		f.SetUint(top)
	} else {
		f.SetInt(math.MaxInt)
	}
	return p
}

// wrong are parameters that aren't right: nothing at all, each number beyond its limit, and what doesn't go together.
func wrong(t *testing.T) []api.Params {
	t.Helper()
	list := []api.Params{{}}
	for i := range reflect.TypeFor[api.Params]().NumField() {
		list = append(list, spoilt(i))
	}
	for _, spoil := range []func(p *api.Params){
		func(p *api.Params) { p.MaxEff = 31 },
		func(p *api.Params) { p.Floor = p.Cap },
		func(p *api.Params) { p.Bias = 0 },
		func(p *api.Params) { p.BiasEm = p.Bias - 1 },
		func(p *api.Params) { p.QuotEm = p.Quot + 1 },
		func(p *api.Params) { p.ScoreCap = 47 },
		func(p *api.Params) { p.Streak = -1 },
		func(p *api.Params) { p.Streak = api.MaxStreak + 1 },
		func(p *api.Params) { p.Churn = 0 },
	} {
		p := simple()
		spoil(&p)
		list = append(list, p)
	}
	for _, p := range list {
		if param.Check(p) != api.ErrParam {
			t.Fatalf("it is right: %+v", p)
		}
	}
	return list
}

// modes are all that there are, and numbers that are none.
func modes() []int {
	return []int{
		api.ModeNormal, api.ModeDelay, api.ModeLeak, api.ModeEmergency,
		0, -1, -3, -4, 5, 6, 1<<32 + api.ModeLeak, math.MinInt, math.MaxInt,
	}
}

// around is each of some numbers, and the one below and the one above it, where there is one.
func around(list ...uint64) []uint64 {
	var all []uint64
	for _, n := range list {
		all = append(all, n)
		if n > 0 {
			all = append(all, n-1)
		}
		if n < top {
			all = append(all, n+1)
		}
	}
	return all
}

// scores are those at which something changes, and those around them.
func scores(p api.Params) []uint64 {
	all := around(0, p.Bias, p.Recover, p.ScoreCap, api.MaxScore, 1<<63, top-p.Bias, top-p.BiasEm, top)
	for _, by := range []uint64{p.Bias, p.BiasEm} {
		if by <= p.ScoreCap {
			all = append(all, around(p.ScoreCap-by)...)
		}
	}
	return all
}

// streaks are likewise.
func streaks(p api.Params) []int {
	return []int{
		math.MinInt, math.MinInt + 1, -p.Streak - 1, -p.Streak, -2, -1, 0, 1, 2,
		p.Streak - 2, p.Streak - 1, p.Streak, p.Streak + 1, p.Streak + 2, math.MaxInt - 1, math.MaxInt,
	}
}

// standings are all that these scores and streaks make, with a balance and an effective balance that differ from all of them.
func standings(p api.Params) []api.Standing {
	var all []api.Standing
	for _, n := range scores(p) {
		for _, streak := range streaks(p) {
			all = append(all, api.Standing{Balance: 123456789, Eff: 987654321, Score: n, Streak: streak})
		}
	}
	return all
}

func num(n uint64) *big.Int { return new(big.Int).SetUint64(n) }

// within is a whole number, or the end that it is beyond.
func within(n *big.Int, least, most uint64) uint64 {
	if n.Cmp(num(least)) < 0 {
		return least
	}
	if n.Cmp(num(most)) > 0 {
		return most
	}
	return n.Uint64()
}

// streakOf is the streak of somebody who is present, by the chapter's words, over whole numbers.
func streakOf(p api.Params, streak int) int {
	n := num(within(big.NewInt(int64(streak)), 0, math.MaxInt))
	return int(within(n.Add(n, big.NewInt(1)), 0, uint64(p.Streak)))
}

// afterOf is the chapter's After of parameters that are right, over whole numbers.
func afterOf(p api.Params, s api.Standing, present bool, mode int) api.Standing {
	n := num(s.Score)
	switch {
	case present:
		s.Streak = streakOf(p, s.Streak)
		s.Score = within(n.Sub(n, num(p.Recover)), 0, top)
	case mode == 3:
		s.Streak = 0
		s.Score = within(n.Add(n, num(p.Bias)), 0, p.ScoreCap)
	case mode == 4:
		s.Streak = 0
		s.Score = within(n.Add(n, num(p.BiasEm)), 0, p.ScoreCap)
	default:
		s.Streak = 0
	}
	return s
}

// trimOf is the chapter's Trim, likewise.
func trimOf(p api.Params, s api.Standing) api.Standing {
	s.Score = within(num(s.Score), 0, p.ScoreCap)
	s.Streak = int(within(big.NewInt(int64(s.Streak)), 0, uint64(p.Streak)))
	return s
}

// held asks that all that is answered of parameters that are right is what the chapter's words say.
func held(t *testing.T, p api.Params, s api.Standing, mode int) {
	t.Helper()
	for _, present := range []bool{false, true} {
		if got, want := score.After(p, s, present, mode), afterOf(p, s, present, mode); got != want {
			t.Fatalf("After(%+v, %t, %d): %+v, want %+v of %+v", s, present, mode, got, want, p)
		}
	}
	if got, want := score.Trim(p, s), trimOf(p, s); got != want {
		t.Fatalf("Trim(%+v): %+v, want %+v of %+v", s, got, want, p)
	}
}

// P11.1: it leaks in ModeLeak and in ModeEmergency, in nothing else.
func TestLeaks(t *testing.T) {
	for _, mode := range modes() {
		if got, want := score.Leaks(mode), mode == 3 || mode == 4; got != want {
			t.Errorf("%d: %t", mode, got)
		}
	}
}

// P11.1: who is present has a streak of one more, but at most p's.
func TestStreakThere(t *testing.T) {
	for _, x := range []struct{ most, streak, want int }{
		{4, math.MinInt, 1}, {4, -5, 1}, {4, -1, 1}, {4, 0, 1}, {4, 1, 2}, {4, 2, 3}, {4, 3, 4},
		{4, 4, 4}, {4, 5, 4}, {4, math.MaxInt - 1, 4}, {4, math.MaxInt, 4},
		{1, math.MinInt, 1}, {1, -1, 1}, {1, 0, 1}, {1, 1, 1}, {1, 2, 1}, {1, math.MaxInt, 1},
		{0, math.MinInt, 0}, {0, -2, 0}, {0, -1, 0}, {0, 0, 0}, {0, 1, 0}, {0, math.MaxInt, 0},
		{64, 62, 63}, {64, 63, 64}, {64, 64, 64}, {64, 65, 64}, {64, math.MaxInt, 64},
	} {
		p := simple()
		p.Streak = x.most
		for _, mode := range modes() {
			if got := score.After(p, api.Standing{Streak: x.streak}, true, mode); got != (api.Standing{Streak: x.want}) {
				t.Errorf("%d of %d in %d: %+v, want %d", x.streak, x.most, mode, got, x.want)
			}
		}
	}
}

// P11.1: who is present has a score of Recover less, but at least 0, also in a mode that leaks.
func TestScoreThere(t *testing.T) {
	for _, x := range []struct{ less, score, want uint64 }{
		{2, 0, 0}, {2, 1, 0}, {2, 2, 0}, {2, 3, 1}, {2, 4, 2},
		{2, 99, 97}, {2, 100, 98}, {2, 101, 99}, {2, 1 << 60, 1<<60 - 2}, {2, top - 1, top - 3}, {2, top, top - 2},
		{0, 0, 0}, {0, 1, 1}, {0, 100, 100}, {0, 101, 101}, {0, top, top},
		{1, 0, 0}, {1, 1, 0}, {1, 2, 1},
		{api.MaxBias, 0, 0}, {api.MaxBias, 100, 0}, {api.MaxBias, 1<<32 - 1, 0}, {api.MaxBias, 1 << 32, 0},
		{api.MaxBias, 1<<32 + 1, 1}, {api.MaxBias, top, top - 1<<32},
	} {
		p := simple()
		p.Recover = x.less
		for _, mode := range modes() {
			if got := score.After(p, api.Standing{Score: x.score}, true, mode); got != (api.Standing{Score: x.want, Streak: 1}) {
				t.Errorf("%d less of %d in %d: %+v, want %d", x.less, x.score, mode, got, x.want)
			}
		}
	}
}

// P11.1: who is absent has a streak of 0, whatever it was, and whether the mode leaks or not.
func TestStreakAway(t *testing.T) {
	for _, most := range []int{0, 1, 4, 64} {
		p := simple()
		p.Streak = most
		for _, streak := range streaks(p) {
			for _, mode := range modes() {
				if got := score.After(p, api.Standing{Streak: streak}, false, mode); got.Streak != 0 {
					t.Errorf("%d of %d in %d: %+v", streak, most, mode, got)
				}
			}
		}
	}
}

// rise is a score, what it is behind a tick in ModeLeak, and what behind one in ModeEmergency.
type rise struct{ score, leak, emergency uint64 }

func absent(t *testing.T, p api.Params, rises []rise) {
	t.Helper()
	for _, x := range rises {
		s := api.Standing{Score: x.score, Streak: 3}
		if got := score.After(p, s, false, api.ModeLeak); got != (api.Standing{Score: x.leak}) {
			t.Errorf("%d in the leak: %+v, want %d of %+v", x.score, got, x.leak, p)
		}
		if got := score.After(p, s, false, api.ModeEmergency); got != (api.Standing{Score: x.emergency}) {
			t.Errorf("%d in the emergency: %+v, want %d of %+v", x.score, got, x.emergency, p)
		}
	}
}

// P11.1: who is absent in a leak has a score of Bias more, in the emergency of BiasEm more, but at most ScoreCap.
func TestScoreAway(t *testing.T) {
	absent(t, simple(), []rise{
		{0, 4, 8}, {1, 5, 9}, {50, 54, 58},
		{91, 95, 99}, {92, 96, 100}, {93, 97, 100}, {95, 99, 100}, {96, 100, 100}, {97, 100, 100}, {98, 100, 100},
		{99, 100, 100}, {100, 100, 100}, {101, 100, 100}, {104, 100, 100}, {108, 100, 100}, {api.MaxScore, 100, 100},
		{top - 9, 100, 100}, {top - 8, 100, 100}, {top - 7, 100, 100}, {top - 4, 100, 100}, {top - 3, 100, 100}, {top - 1, 100, 100}, {top, 100, 100},
	})
	// BiasEm alone may be more than ScoreCap.
	absent(t, counted(3, 8, 2, 3, 4), []rise{{0, 3, 3}, {1, 3, 3}, {3, 3, 3}, {4, 3, 3}, {top, 3, 3}})
	most, bias := uint64(api.MaxScore), uint64(api.MaxBias)
	absent(t, counted(1, bias, 0, most, 4), []rise{
		{0, 1, bias}, {most - bias - 1, most - bias, most - 1}, {most - bias, most - bias + 1, most}, {most - bias + 1, most - bias + 2, most},
		{most - 2, most - 1, most}, {most - 1, most, most}, {most, most, most}, {most + 1, most, most},
		{top - bias, most, most}, {top - bias + 1, most, most}, {top - 1, most, most}, {top, most, most},
	})
}

// P11.1: who is absent in a mode that doesn't leak, or in none, keeps its score, also one above ScoreCap.
func TestScoreStaysAway(t *testing.T) {
	for _, mode := range modes() {
		if mode == api.ModeLeak || mode == api.ModeEmergency {
			continue
		}
		for _, n := range []uint64{0, 1, 2, 3, 4, 96, 99, 100, 101, api.MaxScore, api.MaxScore + 1, 1 << 63, top - 4, top - 1, top} {
			if got := score.After(simple(), api.Standing{Score: n, Streak: 2}, false, mode); got != (api.Standing{Score: n}) {
				t.Errorf("%d in %d: %+v", n, mode, got)
			}
		}
	}
}

// P11.2: a score of at most ScoreCap, and a streak from 0 to p's.
func TestTrim(t *testing.T) {
	none := counted(1, 1, 0, 1, 0)
	wide := counted(1, 1, 0, api.MaxScore, api.MaxStreak)
	for _, x := range []struct {
		p       api.Params
		s, want api.Standing
	}{
		{simple(), api.Standing{}, api.Standing{}},
		{simple(), api.Standing{Score: 1, Streak: 1}, api.Standing{Score: 1, Streak: 1}},
		{simple(), api.Standing{Score: 99, Streak: 3}, api.Standing{Score: 99, Streak: 3}},
		{simple(), api.Standing{Score: 100, Streak: 4}, api.Standing{Score: 100, Streak: 4}},
		{simple(), api.Standing{Score: 101, Streak: 5}, api.Standing{Score: 100, Streak: 4}},
		{simple(), api.Standing{Score: 101, Streak: 2}, api.Standing{Score: 100, Streak: 2}},
		{simple(), api.Standing{Score: 7, Streak: 5}, api.Standing{Score: 7, Streak: 4}},
		{simple(), api.Standing{Score: top, Streak: math.MaxInt}, api.Standing{Score: 100, Streak: 4}},
		{simple(), api.Standing{Score: 7, Streak: -1}, api.Standing{Score: 7}},
		{simple(), api.Standing{Score: top - 1, Streak: math.MinInt}, api.Standing{Score: 100}},
		{none, api.Standing{Score: 1}, api.Standing{Score: 1}},
		{none, api.Standing{Score: 2, Streak: 1}, api.Standing{Score: 1}},
		{none, api.Standing{Streak: -1}, api.Standing{}},
		{none, api.Standing{Streak: math.MaxInt}, api.Standing{}},
		{wide, api.Standing{Score: 1<<56 - 1, Streak: 63}, api.Standing{Score: 1<<56 - 1, Streak: 63}},
		{wide, api.Standing{Score: 1 << 56, Streak: 64}, api.Standing{Score: 1 << 56, Streak: 64}},
		{wide, api.Standing{Score: 1<<56 + 1, Streak: 65}, api.Standing{Score: 1 << 56, Streak: 64}},
	} {
		if got := score.Trim(x.p, x.s); got != x.want {
			t.Errorf("%+v: %+v, want %+v of %+v", x.s, got, x.want, x.p)
		}
	}
}

// P11.2: what is trimmed stays so when it is trimmed again.
func TestTrimAgain(t *testing.T) {
	for _, p := range right(t) {
		for _, s := range standings(p) {
			once := score.Trim(p, s)
			if got := score.Trim(p, once); got != once {
				t.Fatalf("%+v: %+v, and then %+v of %+v", s, once, got, p)
			}
		}
	}
}

// P11.1, P11.2: of parameters that aren't right a standing stays what it is, whatever it is.
func TestWrongParams(t *testing.T) {
	list := standings(simple())
	for _, p := range wrong(t) {
		for _, s := range list {
			if got := score.Trim(p, s); got != s {
				t.Fatalf("Trim(%+v): %+v of %+v", s, got, p)
			}
			for _, mode := range modes() {
				if there, away := score.After(p, s, true, mode), score.After(p, s, false, mode); there != s || away != s {
					t.Fatalf("After(%+v) in %d: %+v, %+v of %+v", s, mode, there, away, p)
				}
			}
		}
	}
}

// P11.1, P11.2: a balance and an effective balance stay, whatever they are.
func TestBalancesStay(t *testing.T) {
	list := []uint64{0, 1, 9, 10, 11, 25, 30, 31, 40, 41, 100, 101, api.MaxStake, api.MaxStake + 1, api.MaxMoney, top - 4, top}
	asked := func(got, s api.Standing) {
		if got.Balance != s.Balance || got.Eff != s.Eff {
			t.Errorf("%+v of %+v", got, s)
		}
	}
	for _, balance := range list {
		for _, eff := range list {
			s := api.Standing{Balance: balance, Eff: eff, Score: 98, Streak: 5}
			asked(score.Trim(simple(), s), s)
			for _, mode := range modes() {
				asked(score.After(simple(), s, true, mode), s)
				asked(score.After(simple(), s, false, mode), s)
			}
		}
	}
}

// P11.1, P11.2: all pairs of the scores and streaks at which something changes, in each mode, held against whole numbers.
func TestAgainstWholeNumbers(t *testing.T) {
	for _, p := range right(t) {
		for _, s := range standings(p) {
			for _, mode := range modes() {
				held(t, p, s, mode)
			}
		}
	}
}

// P11.1, P11.2: whatever the parameters are, each score and each streak of a few.
func TestSmall(t *testing.T) {
	few := func(p api.Params) {
		for n := range uint64(8) {
			for streak := -2; streak <= 4; streak++ {
				for mode := range 6 {
					held(t, p, api.Standing{Balance: 2, Eff: 1, Score: n, Streak: streak}, mode)
				}
			}
		}
	}
	for bias := uint64(1); bias <= 3; bias++ {
		for biasEm := bias; biasEm <= 5; biasEm++ {
			for less := range uint64(4) {
				for most := bias; most <= 6; most++ {
					for streak := range 3 {
						p := counted(bias, biasEm, less, most, streak)
						if e := param.Check(p); e != api.OK {
							t.Fatalf("%d of %+v", e, p)
						}
						few(p)
					}
				}
			}
		}
	}
}

// gone asks for P11.3's two sentences, tick by tick, of a leak whose modes are told by their places.
func gone(t *testing.T, p api.Params, s api.Standing, ticks int, mode func(tick int) int) {
	t.Helper()
	least := new(big.Int)
	for tick := range ticks {
		s = score.After(p, s, false, mode(tick))
		if s.Score < p.Bias {
			t.Fatalf("below Bias behind the tick %d: %+v of %+v", tick, s, p)
		}
		least.Add(least, num(p.Bias))
		if s.Score != p.ScoreCap && num(s.Score).Cmp(least) < 0 {
			t.Fatalf("below %d times Bias: %+v of %+v", tick+1, s, p)
		}
	}
}

// P11.3: from whatever standing a leak begins, in the emergency, without it, and with it coming and going.
func TestLongAway(t *testing.T) {
	for _, p := range right(t) {
		for _, s := range standings(p) {
			gone(t, p, s, 20, func(int) int { return api.ModeLeak })
			gone(t, p, s, 20, func(int) int { return api.ModeEmergency })
			gone(t, p, s, 20, func(tick int) int { return api.ModeLeak + tick%2 })
		}
	}
}

// P11.3: from 0 on the score is just so many times Bias as there were ticks, until it is ScoreCap, and that stays.
func TestFromNothing(t *testing.T) {
	for _, x := range []struct {
		mode int
		by   uint64
	}{{api.ModeLeak, 4}, {api.ModeEmergency, 8}} {
		p := simple()
		p.ScoreCap = 4001
		s := api.Standing{Streak: 4}
		for j := uint64(1); j <= 1100; j++ {
			s = score.After(p, s, false, x.mode)
			if want := min(j*x.by, 4001); s != (api.Standing{Score: want}) {
				t.Fatalf("behind %d ticks in %d: %+v, want %d", j, x.mode, s, want)
			}
		}
	}
}

// P11.3: for as long as a leak takes from Cap to Floor, and longer.
func TestWholeLeak(t *testing.T) {
	p := simple()
	p.Quot, p.ScoreCap = 1<<32, 400000
	ticks, e := param.Leak(p)
	if e != api.OK || ticks < 50000 {
		t.Fatalf("%d, %d of %+v", ticks, e, p)
	}
	gone(t, p, api.Standing{}, 2*ticks, func(int) int { return api.ModeLeak })
}

// anyNumber is a number of up to so many bits, of all lengths alike.
func anyNumber(dice *rand.Rand, bits int) uint64 {
	return dice.Uint64() >> (63 - dice.Intn(bits))
}

// mixed are parameters that are right, with any numbers for scores and streaks.
func mixed(t *testing.T, dice *rand.Rand) api.Params {
	t.Helper()
	bias := min(1+anyNumber(dice, 32), api.MaxBias)
	biasEm := min(bias+anyNumber(dice, 32), api.MaxBias)
	most := min(bias+anyNumber(dice, 56), api.MaxScore)
	p := counted(bias, biasEm, min(anyNumber(dice, 33), api.MaxBias), most, dice.Intn(api.MaxStreak+1))
	if e := param.Check(p); e != api.OK {
		t.Fatalf("%d of %+v", e, p)
	}
	return p
}

// P11.1 to P11.3: mixed parameters and standings, of any numbers, and of those that come by coming and going at random.
func TestMixed(t *testing.T) {
	dice := rand.New(rand.NewSource(11))
	for range 2000 {
		p := mixed(t, dice)
		s := api.Standing{Balance: dice.Uint64(), Eff: dice.Uint64()}
		for range 50 {
			held(t, p, s, dice.Intn(6))
			odd := api.Standing{Balance: dice.Uint64(), Eff: dice.Uint64(), Score: anyNumber(dice, 64), Streak: int(anyNumber(dice, 64))}
			held(t, p, odd, dice.Intn(6))
			gone(t, p, odd, 3, func(int) int { return api.ModeLeak + dice.Intn(2) })
			s = score.After(p, s, dice.Intn(3) == 0, dice.Intn(6))
			if got := score.Trim(p, s); got != s {
				t.Fatalf("from within the parameters to %+v of %+v", s, p)
			}
		}
	}
}

// The chapter's examples.
func TestExamples(t *testing.T) {
	if got := score.After(simple(), api.Standing{Score: 98}, false, api.ModeLeak).Score; got != 100 {
		t.Error(got)
	}
	if got := score.After(simple(), api.Standing{Score: 1}, true, api.ModeNormal).Score; got != 0 {
		t.Error(got)
	}
}
