package member_test

import (
	"bytes"
	"math"
	"math/big"
	"math/rand"
	"reflect"
	"slices"
	"testing"

	"bullion/api"
	"bullion/grain"
	"bullion/member"
	"bullion/param"
	"bullion/score"
)

const top = 1<<64 - 1

// simple are the parameters of the document's examples.
func simple() api.Params {
	return api.Params{
		Inc: 10, MaxEff: 30, Floor: 10, Cap: 40, Up: 10, Down: 5,
		Bias: 4, Quot: 100, BiasEm: 8, QuotEm: 50, Recover: 2, ScoreCap: 100,
		Rate: 1 << 20, Bond: 1, Delay: 2, Streak: 4, Boost: 100, Absent: 100, Burn: 5000,
		Churn: 2, Wait: 2, Poll: 2, Enact: 1, Quorum: 3000,
	}
}

// with are simple parameters with some numbers changed, and right still.
func with(t *testing.T, change func(p *api.Params)) api.Params {
	t.Helper()
	p := simple()
	change(&p)
	if e := param.Check(p); e != api.OK {
		t.Fatalf("%d of %+v", e, p)
	}
	return p
}

// scaled are parameters with these numbers for balances, whose leak is over at once.
func scaled(t *testing.T, inc, maxEff, floor, most, up, down uint64) api.Params {
	t.Helper()
	return with(t, func(p *api.Params) {
		p.Inc, p.MaxEff, p.Floor, p.Cap, p.Up, p.Down = inc, maxEff, floor, most, up, down
		p.Bias, p.BiasEm, p.Quot, p.QuotEm, p.ScoreCap = api.MaxBias, api.MaxBias, 1, 1, api.MaxScore
	})
}

// right are parameters that are right, with all that a member goes by at its edges.
func right(t *testing.T) []api.Params {
	t.Helper()
	stake, inc := uint64(api.MaxStake), uint64(api.MaxInc)
	return []api.Params{
		simple(),
		with(t, func(p *api.Params) { p.Streak = 0 }),
		with(t, func(p *api.Params) { p.Streak = 1 }),
		with(t, func(p *api.Params) { p.Streak = api.MaxStreak }),
		with(t, func(p *api.Params) { p.ScoreCap = 48 }),
		with(t, func(p *api.Params) { p.ScoreCap = api.MaxScore }),
		with(t, func(p *api.Params) { p.Floor = 39 }),
		with(t, func(p *api.Params) { p.Cap = 30 }),
		with(t, func(p *api.Params) { p.MaxEff, p.Cap = 10, 11 }),
		with(t, func(p *api.Params) { p.MaxEff = 40 }),
		with(t, func(p *api.Params) { p.Floor, p.Up, p.Down = 15, 25, 0 }),
		scaled(t, 1, 1, 1, 2, 1, 0),
		scaled(t, 7, 70, 9, 1000, 8, 3),
		scaled(t, 1, stake, 1, stake, 1, 0),
		scaled(t, inc, stake, inc, stake, stake, stake),
		scaled(t, inc, stake, stake-1, stake, inc, inc),
	}
}

// wrong are parameters that aren't right: nothing at all, each number beyond its limit, and what doesn't go together.
func wrong(t *testing.T) []api.Params {
	t.Helper()
	list := []api.Params{{}, {Inc: 10, MaxEff: 30, Floor: 10, Cap: 40, Up: 10, Down: 5, ScoreCap: 100, Streak: 4}}
	for i := range reflect.TypeFor[api.Params]().NumField() {
		p := simple()
		if f := reflect.ValueOf(&p).Elem().Field(i); f.CanUint() {
			f.SetUint(top)
		} else {
			f.SetInt(math.MaxInt)
		}
		list = append(list, p)
	}
	for _, spoil := range []func(p *api.Params){
		func(p *api.Params) { p.MaxEff = 31 },
		func(p *api.Params) { p.Floor = 9 },
		func(p *api.Params) { p.Floor = p.Cap },
		func(p *api.Params) { p.Cap = 29 },
		func(p *api.Params) { p.Up = 9 },
		func(p *api.Params) { p.Bias = 0 },
		func(p *api.Params) { p.ScoreCap = 47 },
		func(p *api.Params) { p.Delay = -1 },
		func(p *api.Params) { p.Streak = -1 },
		func(p *api.Params) { p.Streak = api.MaxStreak + 1 },
		func(p *api.Params) { p.Churn = 0 },
	} {
		p := simple()
		spoil(&p)
		list = append(list, p)
	}
	for _, p := range list {
		if param.Check(p) != api.ErrParam {
			t.Fatalf("it is right: %+v", p)
		}
	}
	return list
}

// statuses are all that there are, and others are numbers that are none.
func statuses() []int {
	return []int{api.StatusPending, api.StatusActive, api.StatusLeaving, api.StatusOut, api.StatusLeft}
}

func others() []int {
	return []int{0, -1, -2, -3, 6, 7, 1<<32 + api.StatusActive, 1<<32 + api.StatusPending, math.MinInt, math.MinInt + 2, math.MaxInt - 1, math.MaxInt}
}

func allStatuses() []int { return append(statuses(), others()...) }

// one is a member with a status, a balance and an effective balance.
func one(status int, balance, eff uint64) api.Member {
	return api.Member{Standing: api.Standing{Balance: balance, Eff: eff, Score: 7, Streak: 3}, Owner: 5, Status: status}
}

// kinds are members that fit simple parameters, one of each status.
func kinds() []api.Member {
	return []api.Member{
		one(api.StatusPending, 27, 0), one(api.StatusActive, 27, 20), one(api.StatusLeaving, 40, 30),
		one(api.StatusOut, 0, 0), one(api.StatusLeft, 0, 0),
	}
}

// ints are numbers at which something changes of which there may be up to most.
func ints(most int) []int {
	return []int{math.MinInt, math.MinInt + 1, -1 << 32, -2, -1, 0, 1, most / 2, most - 1, most, most + 1, most + 2, 1 << 32, 1<<32 + 1, math.MaxInt - 1, math.MaxInt}
}

// around is each of some numbers, and the one below and the one above it, where there is one.
func around(list ...uint64) []uint64 {
	var all []uint64
	for _, n := range list {
		all = append(all, n)
		if n > 0 {
			all = append(all, n-1)
		}
		if n < top {
			all = append(all, n+1)
		}
	}
	slices.Sort(all)
	return slices.Compact(all)
}

// balances are those at which something changes, and effs likewise.
func balances(p api.Params) []uint64 {
	return around(0, p.Inc, 2*p.Inc, p.Floor, p.MaxEff, p.Cap-p.Inc, p.Cap, p.Cap+p.Inc, 1<<63, top)
}

func effs(p api.Params) []uint64 {
	return around(0, p.Inc, 2*p.Inc, p.MaxEff-p.Inc, p.MaxEff, p.MaxEff+p.Inc, 1<<63, top-top%p.Inc, top)
}

func num(n uint64) *big.Int { return new(big.Int).SetUint64(n) }

func plus(a, b uint64) *big.Int { return new(big.Int).Add(num(a), num(b)) }

// below says whether a and b together are below c, as whole numbers.
func below(a, b, c uint64) bool { return plus(a, b).Cmp(num(c)) < 0 }

// wholeOf is a balance in whole steps, over whole numbers.
func wholeOf(p api.Params, balance uint64) uint64 {
	n := num(balance)
	n.Mul(n.Quo(n, num(p.Inc)), num(p.Inc))
	if n.Cmp(num(p.MaxEff)) > 0 {
		return p.MaxEff
	}
	return n.Uint64()
}

// effOf says whether an effective balance fits a balance, likewise.
func effOf(p api.Params, eff, balance uint64) bool {
	if eff < p.Inc || eff > p.MaxEff || num(eff).Mod(num(eff), num(p.Inc)).Sign() != 0 {
		return false
	}
	moves := below(balance, p.Down, eff) || below(eff, p.Up, balance)
	return !moves || wholeOf(p, balance) == eff
}

func countsOf(m api.Member) bool { return m.Status == 2 || m.Status == 3 }

// fitsOf says whether a member is right by parameters that are right, by the chapter's words.
func fitsOf(p api.Params, m api.Member) bool {
	if m.Owner < 0 || m.Owner > 63 || m.Score > p.ScoreCap || m.Streak < 0 || m.Streak > p.Streak {
		return false
	}
	switch m.Status {
	case 1:
		return m.Balance >= 1 && m.Balance <= p.Cap && m.Eff == 0
	case 2, 3:
		return m.Balance > p.Floor && m.Balance <= p.Cap && effOf(p, m.Eff, m.Balance)
	case 4, 5:
		return m.Balance == 0 && m.Eff == 0
	}
	return false
}

// startOf, endOf and creditOf are likewise what a member becomes.
func startOf(p api.Params, m api.Member) (api.Member, bool) {
	if m.Status != 1 || m.Balance <= p.Floor || m.Balance > p.Cap {
		return m, false
	}
	s := api.Standing{Balance: m.Balance, Eff: wholeOf(p, m.Balance), Score: m.Score}
	return api.Member{Standing: s, Owner: m.Owner, Status: 2}, true
}

func endOf(m api.Member, status int) (api.Member, uint64) {
	return api.Member{Standing: api.Standing{Score: m.Score}, Owner: m.Owner, Status: status}, m.Balance
}

func creditOf(p api.Params, m api.Member, amount uint64) (api.Member, uint64) {
	rest := amount
	if m.Balance <= p.Cap {
		sum := plus(m.Balance, amount)
		m.Balance, rest = p.Cap, 0
		if above := sum.Sub(sum, num(p.Cap)); above.Sign() > 0 {
			rest = above.Uint64()
		} else {
			m.Balance = above.Add(above, num(p.Cap)).Uint64()
		}
	}
	if (m.Status == 4 || m.Status == 5) && m.Balance > 0 {
		m.Status, m.Eff = 1, 0
	}
	return m, rest
}

// stakesOf is what is present and what is active, over whole numbers.
func stakesOf(members []api.Member, marks []byte) (present, active *big.Int) {
	present, active = new(big.Int), new(big.Int)
	for i, m := range members {
		if !countsOf(m) {
			continue
		}
		active.Add(active, num(m.Eff))
		if i/8 < len(marks) && marks[i/8]>>(i%8)%2 == 1 {
			present.Add(present, num(m.Eff))
		}
	}
	return present, active
}

func fits(t *testing.T, p api.Params, m api.Member, want bool) {
	t.Helper()
	if got := member.Fits(p, m); got != want {
		t.Fatalf("Fits(%+v): %t of %+v", m, got, p)
	}
}

func starts(t *testing.T, p api.Params, m, want api.Member, wantOK bool) {
	t.Helper()
	if got, ok := member.Start(p, m); got != want || ok != wantOK {
		t.Fatalf("Start(%+v): %+v, %t, want %+v, %t of %+v", m, got, ok, want, wantOK, p)
	}
}

func credits(t *testing.T, p api.Params, m api.Member, amount uint64, want api.Member, wantRest uint64) {
	t.Helper()
	if got, rest := member.Credit(p, m, amount); got != want || rest != wantRest {
		t.Fatalf("Credit(%+v, %d): %+v, %d, want %+v, %d of %+v", m, amount, got, rest, want, wantRest, p)
	}
}

func ends(t *testing.T, m api.Member, status int, want api.Member, wantPaid uint64) {
	t.Helper()
	if got, paid := member.End(m, status); got != want || paid != wantPaid {
		t.Fatalf("End(%+v, %d): %+v, %d, want %+v, %d", m, status, got, paid, want, wantPaid)
	}
}

// held asks that all that is answered of a member and parameters that are right is what the chapter's words say.
func held(t *testing.T, p api.Params, m api.Member) {
	t.Helper()
	fits(t, p, m, fitsOf(p, m))
	started, ok := startOf(p, m)
	starts(t, p, m, started, ok)
	if ok && fitsOf(p, m) {
		fits(t, p, started, true)
	}
}

// heldCredit asks it of a credit.
func heldCredit(t *testing.T, p api.Params, m api.Member, amount uint64) {
	t.Helper()
	want, rest := creditOf(p, m, amount)
	credits(t, p, m, amount, want, rest)
}

// P19.1: a member counts, if it is active, or waits to leave, whatever else it has.
func TestCounts(t *testing.T) {
	for _, status := range allStatuses() {
		want := status == 2 || status == 3
		for _, m := range []api.Member{{}, one(0, 0, 0), one(0, 27, 20), one(0, top, top), {Owner: math.MinInt}, {Owner: math.MaxInt}} {
			m.Status = status
			if got := member.Counts(m); got != want {
				t.Errorf("%+v: %t", m, got)
			}
		}
	}
}

// P19.1: parameters are right, else nobody fits, whichever number of them it is.
func TestFitsWrongParams(t *testing.T) {
	for _, p := range wrong(t) {
		for _, m := range append(kinds(), api.Member{}) {
			fits(t, p, m, false)
			m.Standing = api.Standing{}
			fits(t, p, m, false)
		}
	}
}

// P19.1: a status is one of api's, whatever else the member has.
func TestFitsStatus(t *testing.T) {
	for _, m := range kinds() {
		fits(t, simple(), m, true)
		for _, status := range others() {
			m.Status = status
			fits(t, simple(), m, false)
		}
	}
	for _, status := range others() {
		fits(t, simple(), api.Member{Status: status}, false)
	}
	// What is right of one status isn't of those of another kind.
	for _, m := range kinds() {
		alike := [][]int{1: {1}, 2: {2, 3}, 3: {2, 3}, 4: {4, 5}, 5: {4, 5}}[m.Status]
		for _, status := range statuses() {
			m.Status = status
			fits(t, simple(), m, slices.Contains(alike, status))
		}
	}
}

// P19.1: an owner is from 0 to MaxAccounts - 1.
func TestFitsOwner(t *testing.T) {
	for _, m := range kinds() {
		for _, owner := range []int{0, 1, 31, 62, api.MaxAccounts - 1} {
			m.Owner = owner
			fits(t, simple(), m, true)
		}
		for _, owner := range []int{math.MinInt, math.MinInt + 1, -1 << 32, -64, -2, -1, api.MaxAccounts, api.MaxAccounts + 1, 128, 1 << 32, 1<<32 + 5, math.MaxInt} {
			m.Owner = owner
			fits(t, simple(), m, false)
		}
	}
}

// P19.1: a score is at most ScoreCap, of each status.
func TestFitsScore(t *testing.T) {
	for _, most := range []uint64{48, 100, 1 << 32, api.MaxScore} {
		p := with(t, func(p *api.Params) { p.ScoreCap = most })
		for _, m := range kinds() {
			for _, n := range []uint64{0, 1, 47, most - 1, most} {
				m.Score = n
				fits(t, p, m, true)
			}
			for _, n := range []uint64{most + 1, most + 2, 1<<56 + 1, 1<<63 + 1, top - 1, top} {
				m.Score = n
				fits(t, p, m, false)
			}
		}
	}
}

// P19.1: a streak is from 0 to p's, of each status.
func TestFitsStreak(t *testing.T) {
	for _, most := range []int{0, 1, 4, api.MaxStreak} {
		p := with(t, func(p *api.Params) { p.Streak = most })
		for _, m := range kinds() {
			for _, n := range ints(most) {
				m.Streak = n
				fits(t, p, m, n >= 0 && n <= most)
			}
		}
	}
}

// P19.1: the balance of one that counts is above Floor and at most Cap, and its effective balance fits.
func TestFitsCounting(t *testing.T) {
	for _, status := range []int{api.StatusActive, api.StatusLeaving} {
		for _, x := range []struct {
			balance, eff uint64
			want         bool
		}{
			{0, 0, false}, {0, 10, false}, {1, 10, false}, {9, 10, false}, {10, 10, false}, {10, 0, false}, {10, 20, false},
			{11, 10, true}, {12, 10, true}, {11, 0, false}, {11, 20, false}, {11, 1, false}, {11, 11, false}, {11, 9, false},
			{15, 10, true}, {14, 20, false}, {15, 20, true}, {20, 10, true}, {21, 10, false}, {20, 20, true}, {20, 30, false},
			{24, 30, false}, {25, 30, true}, {27, 20, true}, {27, 30, true}, {30, 20, true}, {31, 20, false}, {31, 30, true},
			{39, 30, true}, {39, 20, false}, {39, 40, false}, {40, 30, true}, {40, 29, false}, {40, 31, false}, {40, 40, false},
			{40, 0, false}, {40, 10, false}, {40, top, false}, {40, top - top%10, false},
			{41, 30, false}, {41, 20, false}, {42, 30, false}, {1 << 63, 30, false}, {top - 5, 30, false}, {top, 30, false}, {top, top, false},
		} {
			fits(t, simple(), one(status, x.balance, x.eff), x.want)
		}
		p := with(t, func(p *api.Params) { p.Floor = 39 })
		fits(t, p, one(status, 39, 30), false)
		fits(t, p, one(status, 40, 30), true)
		fits(t, p, one(status, 41, 30), false)
	}
}

// P19.1: of a pending one the balance is from 1 to Cap, and Eff 0, whether it is above Floor or not.
func TestFitsPending(t *testing.T) {
	for _, balance := range []uint64{1, 2, 9, 10, 11, 12, 27, 30, 39, 40} {
		fits(t, simple(), one(api.StatusPending, balance, 0), true)
		for _, eff := range []uint64{1, 9, 10, 11, 20, 30, 31, 40, 1 << 63, top} {
			fits(t, simple(), one(api.StatusPending, balance, eff), false)
		}
	}
	for _, balance := range []uint64{0, 41, 42, 100, api.MaxStake, 1 << 63, top} {
		for _, eff := range []uint64{0, 10, 30} {
			fits(t, simple(), one(api.StatusPending, balance, eff), false)
		}
	}
}

// P19.1: one that is out or has left has neither a balance nor an effective one.
func TestFitsGone(t *testing.T) {
	for _, status := range []int{api.StatusOut, api.StatusLeft} {
		fits(t, simple(), one(status, 0, 0), true)
		for _, n := range []uint64{1, 9, 10, 11, 30, 39, 40, 41, 1 << 63, top} {
			fits(t, simple(), one(status, n, 0), false)
			fits(t, simple(), one(status, 0, n), false)
			fits(t, simple(), one(status, n, n), false)
		}
		fits(t, simple(), one(status, 27, 20), false)
	}
}

// P19.1, P19.2: all balances by all effective ones of each status, held against the chapter's words.
func TestAtTheEdges(t *testing.T) {
	for _, p := range right(t) {
		for _, status := range []int{0, 1, 2, 3, 4, 5, 6, math.MinInt, math.MaxInt} {
			for _, balance := range balances(p) {
				near := around(wholeOf(p, balance), balance-p.Up, balance+p.Down)
				for _, eff := range append(near, effs(p)...) {
					m := one(status, balance, eff)
					m.Score, m.Streak = p.ScoreCap, p.Streak
					held(t, p, m)
				}
			}
		}
	}
}

// P19.1: all scores by all streaks and all owners, likewise.
func TestStandingsAtTheEdges(t *testing.T) {
	for _, p := range right(t) {
		held(t, p, api.Member{})
		for _, n := range around(0, p.ScoreCap, 1<<56, top) {
			for _, streak := range ints(p.Streak) {
				for _, owner := range ints(api.MaxAccounts - 1) {
					s := api.Standing{Score: n, Streak: streak}
					held(t, p, api.Member{Standing: s, Owner: owner, Status: api.StatusOut})
					s.Balance = p.Cap
					held(t, p, api.Member{Standing: s, Owner: owner, Status: api.StatusPending})
					s.Eff = grain.Whole(p, p.Cap)
					held(t, p, api.Member{Standing: s, Owner: owner, Status: api.StatusActive})
				}
			}
		}
	}
}

// P19.2: who is pending with a balance above Floor and at most Cap is active then, with it in whole steps.
func TestStart(t *testing.T) {
	for _, x := range []struct{ balance, eff uint64 }{
		{11, 10}, {12, 10}, {19, 10}, {20, 20}, {21, 20}, {27, 20}, {29, 20}, {30, 30}, {31, 30}, {39, 30}, {40, 30},
	} {
		for _, had := range []uint64{0, 1, 10, 30, 40, top} {
			for _, streak := range []int{math.MinInt, -1, 0, 1, 4, 5, math.MaxInt} {
				for _, away := range []uint64{0, 7, 100, 101, top} {
					was := api.Standing{Balance: x.balance, Eff: had, Score: away, Streak: streak}
					now := api.Standing{Balance: x.balance, Eff: x.eff, Score: away}
					starts(t, simple(), api.Member{Standing: was, Owner: 5, Status: 1}, api.Member{Standing: now, Owner: 5, Status: 2}, true)
				}
			}
		}
	}
	for _, owner := range ints(api.MaxAccounts) {
		m := api.Member{Standing: api.Standing{Balance: 27}, Owner: owner, Status: api.StatusPending}
		starts(t, simple(), m, api.Member{Standing: api.Standing{Balance: 27, Eff: 20}, Owner: owner, Status: api.StatusActive}, true)
	}
}

// P19.2: who has not enough, or too much, stays as it is.
func TestNoStart(t *testing.T) {
	for _, balance := range []uint64{0, 1, 9, 10, 41, 42, 50, api.MaxStake, 1 << 63, top - 1, top} {
		for _, eff := range []uint64{0, 10, 30, top} {
			m := one(api.StatusPending, balance, eff)
			starts(t, simple(), m, m, false)
		}
	}
	p := with(t, func(p *api.Params) { p.Floor = 39 })
	starts(t, p, one(api.StatusPending, 39, 0), one(api.StatusPending, 39, 0), false)
	starts(t, p, one(api.StatusPending, 41, 0), one(api.StatusPending, 41, 0), false)
	if _, ok := member.Start(p, one(api.StatusPending, 40, 0)); !ok {
		t.Error("40 doesn't start")
	}
}

// P19.2: who isn't pending stays as it is, also if that is no status.
func TestStartStatus(t *testing.T) {
	for _, status := range allStatuses() {
		if status == api.StatusPending {
			continue
		}
		for _, balance := range []uint64{0, 1, 10, 11, 20, 27, 40, 41, top} {
			for _, eff := range []uint64{0, 20, top} {
				m := one(status, balance, eff)
				starts(t, simple(), m, m, false)
			}
		}
	}
}

// P19.2: by parameters that aren't right nobody starts.
func TestStartWrongParams(t *testing.T) {
	for _, p := range wrong(t) {
		for _, balance := range []uint64{0, 10, 11, 27, 30, 40, 41, top} {
			m := one(api.StatusPending, balance, 9)
			starts(t, p, m, m, false)
		}
	}
}

// P19.2: who ends has that status, and what it had is paid; its score and its owner stay.
func TestEnd(t *testing.T) {
	for _, before := range allStatuses() {
		for _, status := range allStatuses() {
			for _, balance := range []uint64{0, 1, 10, 27, 40, 41, 1 << 63, top} {
				m := one(before, balance, 20)
				want := api.Member{Standing: api.Standing{Score: 7}, Owner: 5, Status: status}
				ends(t, m, status, want, balance)
			}
		}
	}
	for _, eff := range []uint64{0, 1, 30, top} {
		for _, away := range []uint64{0, 1, 100, 101, top} {
			for _, n := range ints(4) {
				m := api.Member{Standing: api.Standing{Balance: 30, Eff: eff, Score: away, Streak: n}, Owner: n, Status: 2}
				want := api.Member{Standing: api.Standing{Score: away}, Owner: n, Status: 4}
				ends(t, m, api.StatusOut, want, 30)
			}
		}
	}
	ends(t, api.Member{}, 0, api.Member{}, 0)
}

// P19.3: so much more, but at most Cap, and what is above it, of each status, also of what is none.
func TestCredit(t *testing.T) {
	for _, x := range []struct{ balance, amount, after, rest uint64 }{
		{0, 0, 0, 0}, {0, 1, 1, 0}, {0, 39, 39, 0}, {0, 40, 40, 0}, {0, 41, 40, 1}, {0, top, 40, top - 40},
		{1, 0, 1, 0}, {1, 38, 39, 0}, {1, 39, 40, 0}, {1, 40, 40, 1}, {1, top, 40, top - 39},
		{10, 0, 10, 0}, {10, 1, 11, 0}, {27, 13, 40, 0}, {27, 12, 39, 0}, {27, 14, 40, 1}, {30, 20, 40, 10}, {30, 1 << 63, 40, 1<<63 - 10},
		{39, 0, 39, 0}, {39, 1, 40, 0}, {39, 2, 40, 1}, {39, top - 1, 40, top - 2}, {39, top, 40, top - 1},
		{40, 0, 40, 0}, {40, 1, 40, 1}, {40, top - 40, 40, top - 40}, {40, top, 40, top},
		{41, 0, 41, 0}, {41, 1, 41, 1}, {41, top, 41, top}, {1 << 63, 1 << 63, 1 << 63, 1 << 63},
		{top, 0, top, 0}, {top, 1, top, 1}, {top, 40, top, 40}, {top, top, top, top},
	} {
		for _, status := range allStatuses() {
			for _, eff := range []uint64{0, 20, 1 << 63, top} {
				want := one(status, x.after, eff)
				if (status == api.StatusOut || status == api.StatusLeft) && x.after > 0 {
					want = one(api.StatusPending, x.after, 0)
				}
				credits(t, simple(), one(status, x.balance, eff), x.amount, want, x.rest)
			}
		}
	}
}

// P19.3: who was out or has left is pending with more than nothing, with Eff 0; with nothing it stays as it is.
func TestCreditGone(t *testing.T) {
	for _, status := range []int{api.StatusOut, api.StatusLeft} {
		for _, eff := range []uint64{0, 1, 20, top} {
			credits(t, simple(), one(status, 0, eff), 0, one(status, 0, eff), 0)
			credits(t, simple(), one(status, 0, eff), 1, one(api.StatusPending, 1, 0), 0)
			credits(t, simple(), one(status, 0, eff), 11, one(api.StatusPending, 11, 0), 0)
			credits(t, simple(), one(status, 0, eff), top, one(api.StatusPending, 40, 0), top-40)
			credits(t, simple(), one(status, 5, eff), 0, one(api.StatusPending, 5, 0), 0)
			credits(t, simple(), one(status, 41, eff), 0, one(api.StatusPending, 41, 0), 0)
			credits(t, simple(), one(status, top, eff), 7, one(api.StatusPending, top, 0), 7)
		}
	}
	// Nothing else of it changes, right or not.
	for _, n := range ints(4) {
		for _, away := range []uint64{0, 100, 101, top} {
			m := api.Member{Standing: api.Standing{Eff: 9, Score: away, Streak: n}, Owner: n, Status: api.StatusLeft}
			want := api.Member{Standing: api.Standing{Balance: 12, Score: away, Streak: n}, Owner: n, Status: api.StatusPending}
			credits(t, simple(), m, 12, want, 0)
			m.Status, want.Status, want.Eff = api.StatusActive, api.StatusActive, 9
			credits(t, simple(), m, 12, want, 0)
		}
	}
}

// P19.3: of parameters that aren't right a member stays as it is, and all of the amount is left.
func TestCreditWrongParams(t *testing.T) {
	for _, p := range wrong(t) {
		for _, status := range allStatuses() {
			for _, balance := range []uint64{0, 1, 39, 40, 41, top} {
				for _, amount := range []uint64{0, 1, 10, 40, top} {
					credits(t, p, one(status, balance, 9), amount, one(status, balance, 9), amount)
				}
			}
		}
	}
}

// P19.3: amounts around all that there is room for, held against whole numbers.
func TestCreditAtTheEdges(t *testing.T) {
	for _, p := range right(t) {
		for _, balance := range balances(p) {
			amounts := append(around(p.Cap-balance, p.Cap), 0, 1, top-balance, 1<<63, top-1, top)
			for _, status := range []int{0, 1, 2, 3, 4, 5, 6} {
				for _, amount := range amounts {
					heldCredit(t, p, one(status, balance, p.Inc), amount)
				}
			}
		}
	}
}

// stray is what stands ahead of members in their memory and behind them.
func stray() api.Member { return one(api.StatusActive, 5353, 5353) }

// roomy is a list with spare room on both sides, and all the memory in which it stands.
func roomy[T any](list []T, stray T) (inner, memory []T) {
	memory = slices.Concat([]T{stray, stray}, list, []T{stray, stray, stray})
	return memory[2 : 2+len(list)], memory
}

// stakes asks what is present and what is active, and that what was handed in stays, spare room too.
func stakes(t *testing.T, members []api.Member, marks []byte, present, active uint64, e api.Errno) {
	t.Helper()
	innerMembers, allMembers := roomy(members, stray())
	innerMarks, allMarks := roomy(marks, 0xff)
	wasMembers, wasMarks := slices.Clone(allMembers), bytes.Clone(allMarks)
	p, a, got := member.Stakes(innerMembers, innerMarks)
	if p != present || a != active || got != e {
		t.Fatalf("%d members, %v: %d, %d, %d; want %d, %d, %d of %+v", len(members), marks, p, a, got, present, active, e, members[:min(len(members), 9)])
	}
	if !slices.Equal(allMembers, wasMembers) || !bytes.Equal(allMarks, wasMarks) {
		t.Fatalf("%v, %v are now %v, %v", wasMembers, wasMarks, allMembers, allMarks)
	}
}

// heldStakes asks it by the chapter's words, over whole numbers.
func heldStakes(t *testing.T, members []api.Member, marks []byte) {
	t.Helper()
	present, active := stakesOf(members, marks)
	if present.Cmp(active) > 0 {
		t.Fatalf("%v of %v", present, active)
	}
	if active.IsUint64() {
		stakes(t, members, marks, present.Uint64(), active.Uint64(), api.OK)
	} else {
		stakes(t, members, marks, 0, 0, api.ErrOver)
	}
}

// P19.4: the effective balances of all that count, and of those of them whose bits are 1.
func TestStakes(t *testing.T) {
	two := []api.Member{one(2, 25, 20), one(3, 40, 30)}
	five := []api.Member{one(1, 27, 1), one(2, 27, 20), one(3, 40, 300), one(4, 0, 4000), one(5, 0, 50000)}
	nine := slices.Concat(five, []api.Member{one(2, 1, 1), one(2, 1, 10), one(2, 1, 100), one(3, 1, 1000)})
	for _, x := range []struct {
		members         []api.Member
		marks           []byte
		present, active uint64
	}{
		{nil, nil, 0, 0}, {[]api.Member{}, []byte{}, 0, 0}, {nil, []byte{255, 255}, 0, 0},
		{two, nil, 0, 50}, {two, []byte{}, 0, 50}, {two, []byte{0}, 0, 50}, {two, []byte{1}, 20, 50}, {two, []byte{2}, 30, 50}, {two, []byte{3}, 50, 50},
		{two[:1], []byte{1}, 20, 20}, {two[1:], []byte{1}, 30, 30}, {two[1:], []byte{2}, 0, 30},
		// Bits behind the last member, and bytes behind the last one's, are nobody's.
		{two, []byte{4}, 0, 50}, {two, []byte{252}, 0, 50}, {two, []byte{255}, 50, 50}, {two, []byte{0, 3}, 0, 50}, {two, []byte{1, 255, 255}, 20, 50},
		// Who doesn't count isn't there, whatever its bit is.
		{five, []byte{1}, 0, 320}, {five, []byte{2}, 20, 320}, {five, []byte{4}, 300, 320}, {five, []byte{8}, 0, 320}, {five, []byte{16}, 0, 320},
		{five, []byte{31}, 320, 320}, {five, []byte{25}, 0, 320}, {five, nil, 0, 320}, {five[3:], []byte{255}, 0, 0}, {five[:1], []byte{255}, 0, 0},
		// A byte is missing.
		{nine, []byte{255}, 431, 1431}, {nine, []byte{255, 1}, 1431, 1431}, {nine, []byte{0, 1}, 1000, 1431}, {nine, []byte{128}, 100, 1431}, {nine, []byte{0, 254}, 0, 1431},
	} {
		stakes(t, x.members, x.marks, x.present, x.active, api.OK)
		heldStakes(t, x.members, x.marks)
	}
	// Their balances count for nothing.
	stakes(t, []api.Member{one(2, top, 1), one(3, top, 2)}, []byte{2}, 2, 3, api.OK)
}

// P19.4: of each status with a bit that is 1, and numbers that are none.
func TestStakesStatus(t *testing.T) {
	for _, status := range allStatuses() {
		want := uint64(0)
		if status == 2 || status == 3 {
			want = 20
		}
		stakes(t, []api.Member{one(status, 27, 20)}, []byte{1}, want, want, api.OK)
		stakes(t, []api.Member{one(status, 27, 20)}, []byte{0}, 0, want, api.OK)
		stakes(t, []api.Member{one(2, 27, 7), one(status, 27, 20), one(3, 27, 8)}, []byte{3}, 7+want, 15+want, api.OK)
	}
}

// P19.4: sums up to the greatest number of the type, and beyond it.
func TestStakesOver(t *testing.T) {
	for _, x := range []struct {
		effs    []uint64
		marks   []byte
		present uint64
		over    bool
	}{
		{[]uint64{top}, []byte{0}, 0, false}, {[]uint64{top}, []byte{1}, top, false},
		{[]uint64{top, 0}, []byte{3}, top, false}, {[]uint64{top - 1, 1}, []byte{3}, top, false}, {[]uint64{1, top - 1}, []byte{1}, 1, false},
		{[]uint64{1 << 63, 1<<63 - 1}, []byte{2}, 1<<63 - 1, false}, {[]uint64{1<<63 - 1, 1<<63 - 1, 1}, []byte{7}, top, false},
		{[]uint64{top, 1}, []byte{3}, 0, true}, {[]uint64{1, top}, []byte{3}, 0, true}, {[]uint64{1 << 63, 1 << 63}, []byte{3}, 0, true},
		// What is active is above it, though what is present isn't.
		{[]uint64{top, 1}, nil, 0, true}, {[]uint64{top, 1}, []byte{1}, 0, true}, {[]uint64{top, 1}, []byte{2}, 0, true},
		{[]uint64{top, top}, []byte{0}, 0, true}, {[]uint64{5, top - 4, 7}, []byte{1}, 0, true}, {[]uint64{5, top - 4, 0}, []byte{1}, 0, true},
		{[]uint64{5, top - 5, 0}, []byte{1}, 5, false},
	} {
		for _, status := range []int{api.StatusActive, api.StatusLeaving} {
			var members []api.Member
			for _, eff := range x.effs {
				members = append(members, one(status, 1, eff))
			}
			if x.over {
				stakes(t, members, x.marks, 0, 0, api.ErrOver)
			} else {
				stakes(t, members, x.marks, x.present, top, api.OK)
			}
		}
	}
	// Who doesn't count isn't in the sum.
	for _, status := range []int{0, 1, 4, 5, 6, -1, math.MinInt, math.MaxInt} {
		stakes(t, []api.Member{one(2, 1, top), one(status, 1, top), one(status, 1, 1)}, []byte{7}, top, top, api.OK)
	}
}

// P19.4: any number of members, also more than there may be.
func TestManyStakes(t *testing.T) {
	for _, n := range []int{1, 7, 8, 9, 127, api.MaxMembers, api.MaxMembers + 1, 256, 257, 1000} {
		var members []api.Member
		for i := range n {
			members = append(members, one(1+i%5, uint64(i), uint64(1+i*i)))
		}
		for _, size := range []int{0, 1, n / 16, (n+7)/8 - 1, (n + 7) / 8, (n+7)/8 + 1, n} {
			heldStakes(t, members, bytes.Repeat([]byte{0xff}, size))
			heldStakes(t, members, bytes.Repeat([]byte{0xa6}, size))
		}
		heldStakes(t, members, nil)
		// Of each place by itself.
		for i := range n {
			marks := make([]byte, (n+7)/8)
			marks[i/8] = 1 << (i % 8)
			heldStakes(t, members, marks)
		}
	}
	stake := uint64(api.MaxStake)
	full := slices.Repeat([]api.Member{one(2, stake, stake)}, api.MaxMembers)
	stakes(t, full, bytes.Repeat([]byte{0xff}, 16), 128*stake, 128*stake, api.OK)
	long := slices.Repeat([]api.Member{one(3, 1, 1<<50)}, 1<<14)
	stakes(t, long, []byte{1}, 0, 0, api.ErrOver)
	stakes(t, long[1:], []byte{3}, 1<<51, top-1<<50+1, api.OK)
}

// P19.4: each status' word, and none of another number.
func TestWord(t *testing.T) {
	for status, want := range map[int]string{1: "pending", 2: "active", 3: "leaving", 4: "out", 5: "left"} {
		if got := member.Word(status); got != want {
			t.Errorf("%d: %q, want %q", status, got, want)
		}
	}
	for _, status := range others() {
		if got := member.Word(status); got != "" {
			t.Errorf("%d: %q", status, got)
		}
	}
}

// P19.5: who fits, and starts, fits, with each balance that may start.
func TestStartedFits(t *testing.T) {
	for _, p := range right(t) {
		list := append(balances(p), p.Floor+2, (p.Floor+p.Cap)/2)
		for _, balance := range list {
			for _, streak := range []int{0, p.Streak} {
				for _, away := range []uint64{0, p.ScoreCap} {
					m := api.Member{Standing: api.Standing{Balance: balance, Score: away, Streak: streak}, Owner: 63, Status: 1}
					if fits, want := member.Fits(p, m), balance >= 1 && balance <= p.Cap; fits != want {
						t.Fatalf("%+v: %t of %+v", m, fits, p)
					}
					after, ok := member.Start(p, m)
					if want := balance > p.Floor && balance <= p.Cap; ok != want || member.Counts(after) != want {
						t.Fatalf("%+v: %+v, %t of %+v", m, after, ok, p)
					}
					if ok {
						fits(t, p, after, true)
					}
				}
			}
		}
	}
	for balance := uint64(11); balance <= 40; balance++ {
		m, ok := member.Start(simple(), one(api.StatusPending, balance, 0))
		fits(t, simple(), m, ok)
	}
}

// P19.5: who is put out, or leaves, fits, if its score did, whatever else it had.
func TestEndedFits(t *testing.T) {
	for _, p := range right(t) {
		for _, status := range []int{api.StatusOut, api.StatusLeft} {
			for _, away := range around(0, p.ScoreCap, top) {
				for _, balance := range balances(p) {
					m := one(api.StatusLeaving, balance, balance)
					m.Score, m.Streak = away, math.MinInt
					after, paid := member.End(m, status)
					if paid != balance {
						t.Fatalf("%d of %+v", paid, m)
					}
					fits(t, p, after, away <= p.ScoreCap)
				}
			}
		}
	}
	for _, m := range kinds() {
		for _, status := range []int{api.StatusOut, api.StatusLeft} {
			after, _ := member.End(m, status)
			fits(t, simple(), after, true)
		}
	}
}

// anyNumber is a number of up to so many bits, of all lengths alike.
func anyNumber(dice *rand.Rand, bits int) uint64 {
	return dice.Uint64() >> (63 - dice.Intn(bits))
}

// mixed are parameters that are right, with any numbers for balances.
func mixed(t *testing.T, dice *rand.Rand) api.Params {
	t.Helper()
	inc := min(1+anyNumber(dice, 31), api.MaxInc)
	maxEff := inc * (1 + anyNumber(dice, 9))
	floor := inc + anyNumber(dice, 38)
	most := min(max(maxEff, floor)+1+anyNumber(dice, 39), api.MaxStake)
	p := scaled(t, inc, min(maxEff, most-most%inc), floor, most, min(inc+anyNumber(dice, 39), api.MaxStake), anyNumber(dice, 40))
	p.Streak = dice.Intn(api.MaxStreak + 1)
	return p
}

// oddMember is a member of any numbers.
func oddMember(dice *rand.Rand) api.Member {
	s := api.Standing{Balance: anyNumber(dice, 64), Eff: anyNumber(dice, 64), Score: anyNumber(dice, 64), Streak: dice.Intn(70) - 2}
	return api.Member{Standing: s, Owner: dice.Intn(70) - 2, Status: dice.Intn(8) - 1}
}

// day is a member that fits, behind something that may happen to it, and it fits still.
func day(t *testing.T, dice *rand.Rand, p api.Params, m api.Member) api.Member {
	t.Helper()
	switch dice.Intn(4) {
	case 0:
		amount := anyNumber(dice, 42)
		heldCredit(t, p, m, amount)
		m, _ = member.Credit(p, m, amount)
		if next := grain.Next(p, m.Eff, m.Balance); member.Counts(m) {
			m.Eff = next
		}
	case 1:
		m, _ = member.Start(p, m)
	case 2:
		m, _ = member.End(m, api.StatusOut+dice.Intn(2))
	case 3:
		m.Standing = score.After(p, m.Standing, dice.Intn(2) == 0, 1+dice.Intn(4))
	}
	fits(t, p, m, true)
	return m
}

// P19.1 to P19.5: mixed parameters and members, of any numbers, and of those that come by coming and going at random.
func TestMixed(t *testing.T) {
	dice := rand.New(rand.NewSource(19))
	for range 2000 {
		p := mixed(t, dice)
		m := api.Member{Owner: dice.Intn(api.MaxAccounts), Status: api.StatusOut}
		var members []api.Member
		for range 50 {
			odd := oddMember(dice)
			held(t, p, odd)
			heldCredit(t, p, odd, anyNumber(dice, 64))
			after, paid := endOf(odd, dice.Intn(8))
			ends(t, odd, after.Status, after, paid)
			m = day(t, dice, p, m)
			held(t, p, m)
			members = append(members, m, odd)
		}
		marks := make([]byte, dice.Intn(20))
		dice.Read(marks)
		heldStakes(t, members, marks)
		heldStakes(t, members[:dice.Intn(5)], marks)
	}
}

// The chapter's examples.
func TestExamples(t *testing.T) {
	if got, ok := member.Start(simple(), api.Member{Standing: api.Standing{Balance: 27}, Status: api.StatusPending}); !ok || got.Eff != 20 {
		t.Error(got, ok)
	}
	if got, above := member.Credit(simple(), api.Member{Standing: api.Standing{Balance: 30}, Status: api.StatusActive}, 20); got.Balance != 40 || above != 10 {
		t.Error(got, above)
	}
}
