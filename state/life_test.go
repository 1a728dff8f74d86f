package state_test

import (
	"math/rand"
	"slices"
	"testing"

	"bullion/api"
	"bullion/param"
	"bullion/state"
)

// scaled are parameters with these numbers for balances, whose leak is over at once.
func scaled(inc, maxEff, floor, most, up, down uint64) api.Params {
	return with(func(p *api.Params) {
		p.Inc, p.MaxEff, p.Floor, p.Cap, p.Up, p.Down = inc, maxEff, floor, most, up, down
		p.Bias, p.BiasEm, p.Quot, p.QuotEm, p.ScoreCap = api.MaxBias, api.MaxBias, 1, 1, api.MaxScore
	})
}

// right are parameters of every sort, all of which are right.
func right(t *testing.T) []api.Params {
	t.Helper()
	stake, inc := uint64(api.MaxStake), uint64(api.MaxInc)
	list := []api.Params{
		simple(), simple(), simple(),
		with(func(p *api.Params) { p.Delay, p.Wait, p.Enact, p.Poll, p.Churn = 0, 0, 0, 1, 1 }),
		with(func(p *api.Params) { p.Floor, p.Cap = 19, 30 }),
		with(func(p *api.Params) { p.Floor, p.Cap, p.ScoreCap = 30, 90, 3000 }),
		with(func(p *api.Params) { p.Inc, p.MaxEff, p.Up, p.Down = 7, 28, 7, 0 }),
		with(func(p *api.Params) { p.Inc, p.MaxEff, p.Up, p.Down, p.ScoreCap = 1, 40, 1, 0, 200 }),
		with(func(p *api.Params) { p.Absent, p.Burn, p.Churn = api.MaxRate, api.MaxRate, api.MaxChurn }),
		with(func(p *api.Params) { p.Absent, p.Burn, p.Streak, p.Boost = 3000, 0, 0, 0 }),
		with(func(p *api.Params) { p.Rate, p.Streak, p.Boost = 1<<23, api.MaxStreak, api.MaxBoost }),
		with(func(p *api.Params) { p.Rate, p.Quorum, p.Wait = 0, 0, api.MaxWait }),
		with(func(p *api.Params) { p.ScoreCap, p.Recover = 48, 0 }),
		scaled(1, 1, 1, 2, 1, 0),
		scaled(7, 70, 9, 1000, 8, 3),
		scaled(1, stake, 1, stake, 1, 0),
		scaled(inc, stake, inc, stake, stake, stake),
		scaled(inc, stake, stake-1, stake, inc, inc),
	}
	for _, p := range list {
		if param.Check(p) != api.OK {
			t.Fatalf("it isn't right: %+v", p)
		}
	}
	return list
}

// life is a state that goes through many ticks, with all sorts of things put in between.
type life struct {
	dice   *rand.Rand
	params []api.Params
	s      api.State
}

// maybe says something once in so many times.
func (x *life) maybe(n int) bool { return x.dice.Intn(n) == 0 }

// upTo is a number from least to most.
func (x *life) upTo(least, most uint64) uint64 {
	return least + x.dice.Uint64()%(most-least+1)
}

// pick is one of a list.
func pick[T any](x *life, list []T) T { return list[x.dice.Intn(len(list))] }

// account is one of the accounts' places.
func (x *life) account() int { return x.dice.Intn(len(x.s.Purses)) }

// take takes at most so much out of a purse.
func (x *life) take(account int, most uint64) uint64 {
	n := min(x.s.Purses[account], most)
	if n > 0 {
		n = x.upTo(1, n)
	}
	x.s.Purses[account] -= n
	return n
}

// stake is an amount of about what a member may have.
func (x *life) stake() uint64 {
	p := x.s.Params
	return pick(x, []uint64{1, p.Floor, p.Floor + 1, p.Cap, p.Cap + 1, p.Cap - p.Floor, 2 * p.Cap, p.Inc})
}

// born is a new state of members of every status, which fits.
func (x *life) born(t *testing.T) {
	p := pick(x, x.params)
	x.s = api.State{Params: p, Marks: votes(), Epoch: x.dice.Intn(100), Calm: x.dice.Intn(4), Emergency: x.maybe(5)}
	x.s.Purses = make([]uint64, 1+x.dice.Intn(pick(x, []int{1, 4, api.MaxAccounts})))
	for i := range x.s.Purses {
		x.s.Purses[i] = x.upTo(0, 10*p.Cap)
	}
	for range x.dice.Intn(pick(x, []int{2, 6, 20, api.MaxMembers + 1})) {
		x.s.Members = append(x.s.Members, x.somebody(p))
	}
	for i, m := range x.s.Members {
		switch m.Status {
		case api.StatusPending:
			x.s.Entry = append(x.s.Entry, i)
		case api.StatusLeaving:
			x.s.Exit = append(x.s.Exit, i)
		}
	}
	x.dice.Shuffle(len(x.s.Entry), func(i, j int) { x.s.Entry[i], x.s.Entry[j] = x.s.Entry[j], x.s.Entry[i] })
	x.dice.Shuffle(len(x.s.Exit), func(i, j int) { x.s.Exit[i], x.s.Exit[j] = x.s.Exit[j], x.s.Exit[i] })
	x.s.Treasury, x.s.Minted, x.s.Burned = x.upTo(50, 50+5*p.Cap), x.upTo(0, 50), x.upTo(0, 50)
	x.s = settle(x.s)
	x.s.Most = pick(x, []uint64{api.MaxMoney, x.s.Genesis + x.s.Minted, x.s.Genesis + x.s.Minted + x.upTo(0, 100)})
	if !state.Fits(x.s) {
		t.Fatalf("%+v", x.s)
	}
}

// somebody is a member that fits.
func (x *life) somebody(p api.Params) api.Member {
	m := api.Member{Owner: x.account(), Status: 1 + x.dice.Intn(5)}
	m.Score, m.Streak = x.upTo(0, p.ScoreCap), x.dice.Intn(p.Streak+1)
	switch {
	case counts(m):
		m.Balance = x.upTo(p.Floor+1, p.Cap)
		m.Eff = wholeOf(p, m.Balance)
		if eff := m.Eff + p.Inc; x.maybe(2) && effFits(p, eff, m.Balance) {
			m.Eff = eff
		} else if eff := m.Eff - p.Inc; x.maybe(2) && effFits(p, eff, m.Balance) {
			m.Eff = eff
		}
	case m.Status == api.StatusPending:
		m.Balance = x.upTo(1, p.Cap)
	}
	return m
}

// mark marks some of the members: most of them, a few, all, or nobody, but in long stretches the same ones.
func (x *life) mark(of int) {
	for i := range x.s.Members {
		if x.dice.Intn(10) < of {
			x.s.Marks[i/8] |= 1 << (i % 8)
		}
	}
}

// deposit puts a deposit in.
func (x *life) deposit() {
	d := api.Deposit{Account: x.account(), New: x.maybe(2)}
	if !d.New {
		if len(x.s.Members) == 0 {
			return
		}
		d.Member = x.dice.Intn(len(x.s.Members))
	}
	d.Amount = x.take(d.Account, x.stake())
	if d.Amount > 0 && len(x.s.Pool) < api.MaxLine {
		x.s.Pool = append(x.s.Pool, d)
	} else {
		x.s.Purses[d.Account] += d.Amount
	}
}

// due puts something in that is due, maybe already.
func (x *life) due() {
	d := api.Due{Account: x.account(), At: max(0, x.s.Epoch+x.dice.Intn(9)-3)}
	same := func(other api.Due) bool { return other.Account == d.Account && other.At == d.At }
	if slices.ContainsFunc(x.s.Dues, same) {
		return
	}
	if d.Amount = x.take(x.account(), x.stake()); d.Amount == 0 {
		return
	}
	i := 0
	for i < len(x.s.Dues) && x.s.Dues[i].At < d.At {
		i++
	}
	x.s.Dues = slices.Insert(x.s.Dues, i, d)
}

// leave lets somebody wait to leave.
func (x *life) leave() {
	if places := ofStatus(x.s, api.StatusActive); len(places) > 0 {
		i := pick(x, places)
		x.s.Members[i].Status = api.StatusLeaving
		x.s.Exit = append(x.s.Exit, i)
	}
}

// motion puts a motion in, in whatever state, and votes on it.
func (x *life) motion() {
	m := about(pick(x, whats()))
	m.Account, m.To, m.State = x.account(), x.account(), pick(x, []int{1, 1, 1, 2, 2, 3, 4})
	m.Ends, m.Due = max(0, x.s.Epoch+x.dice.Intn(5)-1), max(0, x.s.Epoch+x.dice.Intn(5)-1)
	m.Amount = x.upTo(0, 2*x.s.Treasury+1)
	if m.What == api.MoveParams {
		m.Params = pick(x, x.params)
	}
	if x.maybe(2) {
		m.Yes = slices.Repeat([]byte{255}, 16)
	}
	x.dice.Read(m.No)
	if x.maybe(2) {
		m.No = votes()
	}
	if len(x.s.Motions) < api.MaxMotions {
		x.s.Motions = append(x.s.Motions, m)
	} else {
		x.s.Motions[x.dice.Intn(len(x.s.Motions))] = m
	}
}

// P24.2 and P24.3: many ticks, one behind the other, of states of every sort, with all sorts of things put in between: each is as the chapter's words ask, and what fits, fits behind it, with all money accounted for.
func TestLife(t *testing.T) {
	seen := map[string]int{}
	for seed := range int64(120) {
		x := &life{dice: rand.New(rand.NewSource(seed)), params: right(t)}
		x.born(t)
		of := 10
		for range 40 {
			if x.maybe(4) {
				of = pick(x, []int{0, 3, 7, 10, 10, 10})
			}
			// Where nobody counts any more nothing comes of most of what is put in.
			if x.maybe(3) && !slices.ContainsFunc(x.s.Members, counts) {
				x.born(t)
			}
			x.mark(of)
			for _, put := range []func(){x.deposit, x.deposit, x.due, x.leave, x.motion} {
				if x.maybe(3) {
					put()
				}
			}
			was, report := x.s, api.Report{}
			x.s, report = ticks(t, x.s)
			note(seen, was, x.s, report)
		}
	}
	for _, what := range []string{"normal", "delay", "leak", "emergency", "quorum", "minted", "kept", "burned", "fees", "out", "left", "started", "done", "params", "back"} {
		if seen[what] < 20 {
			t.Errorf("only %d times: %s", seen[what], what)
		}
	}
}

// note counts what happened in a tick, so that the dice leave nothing out.
func note(seen map[string]int, was, now api.State, r api.Report) {
	for what, happened := range map[string]bool{
		"normal": r.Mode == api.ModeNormal, "delay": r.Mode == api.ModeDelay, "leak": r.Mode == api.ModeLeak, "emergency": r.Mode == api.ModeEmergency,
		"quorum": r.Quorum, "minted": r.Minted > 0, "kept": r.Kept > 0, "burned": r.Burned > 0, "fees": r.Fees > 0,
		"out": len(r.Out) > 0, "left": len(r.Left) > 0, "started": len(r.Started) > 0, "done": len(r.Done) > 0,
		"params": was.Params != now.Params, "back": r.Quorum && was.Calm > was.Params.Delay,
	} {
		if happened {
			seen[what]++
		}
	}
}

// P24.3: as many of everything as there may be, and ticks of it.
func TestMany(t *testing.T) {
	for _, p := range right(t) {
		s := api.State{Params: p, Marks: votes(), Most: api.MaxMoney, Purses: make([]uint64, api.MaxAccounts)}
		for i := range api.MaxMembers {
			m := api.Member{Owner: i % api.MaxAccounts, Status: 1 + i%5}
			switch {
			case counts(m):
				m.Balance, m.Eff = p.Cap, wholeOf(p, p.Cap)
			case m.Status == api.StatusPending:
				m.Balance = 1 + p.Floor*uint64(i%2)
			}
			s.Members = append(s.Members, m)
		}
		s.Entry, s.Exit = ofStatus(s, api.StatusPending), ofStatus(s, api.StatusLeaving)
		for i := range api.MaxLine {
			s.Pool = append(s.Pool, api.Deposit{Account: i % api.MaxAccounts, Member: i / 2, Amount: p.Cap})
		}
		for at := range 51 {
			for account := range api.MaxAccounts {
				s.Dues = append(s.Dues, api.Due{Account: account, At: at, Amount: uint64(1 + at)})
			}
		}
		for i := range api.MaxMotions {
			m := passed(about(whats()[i%4]), i%5)
			m.To = i
			s.Motions = append(s.Motions, m)
		}
		s.Ring = slices.Repeat([][]byte{votes(1, 2, 3)}, api.MaxRing)
		s = settle(s)
		fits(t, s, true)
		for i := range 12 {
			if i%4 < 2 {
				s.Marks = votes(all(128)...)
			}
			s, _ = ticks(t, s)
		}
	}
}

// P24.3: all money that there may be, in each place where money is, goes through a tick.
func TestMost(t *testing.T) {
	for _, put := range []func(s *api.State, n uint64){
		func(s *api.State, n uint64) { s.Treasury += n },
		func(s *api.State, n uint64) { s.Purses[2] += n },
		func(s *api.State, n uint64) { s.Dues = []api.Due{{Account: 1, At: 5, Amount: n}} },
		func(s *api.State, n uint64) { s.Dues = []api.Due{{Account: 1, At: 7, Amount: n}} },
		func(s *api.State, n uint64) { s.Pool = []api.Deposit{{Account: 1, Amount: n, New: true}} },
		func(s *api.State, n uint64) { s.Pool = []api.Deposit{{Account: 1, Member: 0, Amount: n}} },
		func(s *api.State, n uint64) { s.Treasury += n; s.Motions = []api.Motion{spend(s.Treasury, 2)} },
	} {
		for _, marked := range [][]int{nil, all(10), all(12)} {
			for _, spare := range []uint64{0, 1, 100} {
				s := calls(append(several(10, active(30)), active(11), leaving(12)), marked...)
				s.Most, s.Params.Absent, s.Params.Burn = api.MaxMoney, 10000, 10000
				put(&s, api.MaxMoney-s.Genesis-s.Minted-spare)
				s = settle(s)
				if s.Genesis+s.Minted != api.MaxMoney-spare {
					t.Fatalf("%+v", s)
				}
				for range 4 {
					s, _ = ticks(t, s)
				}
			}
		}
	}
}
