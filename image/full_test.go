package image_test

import (
	"math/big"
	"slices"
	"testing"

	"bullion/api"
	"bullion/param"
	"bullion/state"
)

const (
	top      = 1<<64 - 1
	mostTime = 1<<31 - 1
)

// simple are the parameters of the document's examples.
func simple() api.Params {
	return api.Params{
		Inc: 10, MaxEff: 30, Floor: 10, Cap: 40, Up: 10, Down: 5,
		Bias: 4, Quot: 100, BiasEm: 8, QuotEm: 50, Recover: 2, ScoreCap: 100,
		Rate: 1 << 20, Bond: 1, Delay: 2, Streak: 4, Boost: 100, Absent: 100, Burn: 5000,
		Churn: 2, Wait: 2, Poll: 2, Enact: 1, Quorum: 3000,
	}
}

// with are those, changed in some way.
func with(change func(p *api.Params)) api.Params {
	p := simple()
	change(&p)
	return p
}

// scaled are parameters with these numbers for balances, whose leak is over at once.
func scaled(inc, maxEff, floor, most, up, down uint64) api.Params {
	return with(func(p *api.Params) {
		p.Inc, p.MaxEff, p.Floor, p.Cap, p.Up, p.Down = inc, maxEff, floor, most, up, down
		p.Bias, p.BiasEm, p.Quot, p.QuotEm, p.ScoreCap = api.MaxBias, api.MaxBias, 1, 1, api.MaxScore
	})
}

// vast are parameters each of whose numbers is the greatest one that there may be beside the others.
func vast() api.Params {
	return api.Params{
		Inc: api.MaxInc, MaxEff: api.MaxStake, Floor: api.MaxStake - 1, Cap: api.MaxStake, Up: api.MaxStake, Down: api.MaxStake,
		Bias: api.MaxBias, Quot: api.MaxQuot, BiasEm: api.MaxBias, QuotEm: api.MaxQuot, Recover: api.MaxBias, ScoreCap: api.MaxScore,
		Rate: api.MaxIssue, Bond: api.MaxStake, Delay: api.MaxTicks, Streak: api.MaxStreak, Boost: api.MaxBoost, Absent: api.MaxRate, Burn: api.MaxRate,
		Churn: api.MaxChurn, Wait: api.MaxWait, Poll: api.MaxTicks, Enact: api.MaxTicks, Quorum: api.MaxRate,
	}
}

// right are parameters of every sort, all of which are right.
func right() []api.Params {
	most, inc := uint64(api.MaxStake), uint64(api.MaxInc)
	return []api.Params{
		simple(), vast(),
		with(func(p *api.Params) { p.Bond, p.Churn, p.Poll, p.Enact = 0, 1, 1, 0 }),
		with(func(p *api.Params) { p.Bond, p.Delay, p.Wait, p.Quorum = 25, 0, 0, 0 }),
		with(func(p *api.Params) { p.Floor, p.Cap, p.ScoreCap, p.Bond = 30, 90, 3000, 100 }),
		scaled(1, 1, 1, 2, 1, 0),
		scaled(7, 70, 9, 1000, 8, 3),
		scaled(inc, most, inc, most, most, most),
	}
}

// wrong are parameters that aren't right, each for another reason; their numbers can be read.
func wrong() []api.Params {
	return []api.Params{
		{},
		with(func(p *api.Params) { p.Inc = 0 }),
		with(func(p *api.Params) { p.Inc = api.MaxInc + 1 }),
		with(func(p *api.Params) { p.MaxEff = 35 }),
		with(func(p *api.Params) { p.MaxEff = 50 }),
		with(func(p *api.Params) { p.Floor = 9 }),
		with(func(p *api.Params) { p.Floor = 40 }),
		with(func(p *api.Params) { p.Cap = top }),
		with(func(p *api.Params) { p.Up = 9 }),
		with(func(p *api.Params) { p.Down = top }),
		with(func(p *api.Params) { p.Bias = 0 }),
		with(func(p *api.Params) { p.Quot = 0 }),
		with(func(p *api.Params) { p.BiasEm = 3 }),
		with(func(p *api.Params) { p.QuotEm = 101 }),
		with(func(p *api.Params) { p.Recover = api.MaxBias + 1 }),
		with(func(p *api.Params) { p.ScoreCap = 47 }),
		with(func(p *api.Params) { p.Rate = api.MaxIssue + 1 }),
		with(func(p *api.Params) { p.Bond = api.MaxStake + 1 }),
		with(func(p *api.Params) { p.Delay = api.MaxTicks + 1 }),
		with(func(p *api.Params) { p.Streak = api.MaxStreak + 1 }),
		with(func(p *api.Params) { p.Boost = api.MaxBoost + 1 }),
		with(func(p *api.Params) { p.Absent = api.MaxRate + 1 }),
		with(func(p *api.Params) { p.Burn = api.MaxRate + 1 }),
		with(func(p *api.Params) { p.Churn = 0 }),
		with(func(p *api.Params) { p.Wait = api.MaxWait + 1 }),
		with(func(p *api.Params) { p.Poll = 0 }),
		with(func(p *api.Params) { p.Enact = mostTime }),
		with(func(p *api.Params) { p.Quorum = api.MaxRate + 1 }),
	}
}

// votes is a field of all members in which the bits at these places are 1.
func votes(places ...int) []byte {
	b := make([]byte, 16)
	for _, i := range places {
		b[i/8] |= 1 << (i % 8)
	}
	return b
}

// member is one with a status, a balance and an effective balance, of the account 0.
func member(status int, balance, eff uint64) api.Member {
	return api.Member{Standing: api.Standing{Balance: balance, Eff: eff}, Status: status}
}

// of is a member of an account, with a score and a streak.
func of(owner int, m api.Member, score uint64, streak int) api.Member {
	m.Owner, m.Score, m.Streak = owner, score, streak
	return m
}

// statuses are all that a member may have.
func statuses() []int {
	return []int{api.StatusPending, api.StatusActive, api.StatusLeaving, api.StatusOut, api.StatusLeft}
}

// whole are numbers together, as a whole number.
func whole(list ...uint64) *big.Int {
	sum := new(big.Int)
	for _, n := range list {
		sum.Add(sum, new(big.Int).SetUint64(n))
	}
	return sum
}

// settle makes the money there is what there was at the beginning.
func settle(s api.State) api.State {
	list := append([]uint64{s.Treasury, s.Burned}, s.Purses...)
	for _, m := range s.Members {
		list = append(list, m.Balance)
	}
	for _, d := range s.Pool {
		list = append(list, d.Amount)
	}
	for _, d := range s.Dues {
		list = append(list, d.Amount)
	}
	there := whole(list...)
	s.Genesis = there.Sub(there, whole(s.Minted)).Uint64()
	return s
}

// queued makes both queues what the members' statuses ask, the last places first.
func queued(s api.State) api.State {
	s.Entry, s.Exit = nil, nil
	for i, m := range s.Members {
		switch m.Status {
		case api.StatusPending:
			s.Entry = append([]int{i}, s.Entry...)
		case api.StatusLeaving:
			s.Exit = append([]int{i}, s.Exit...)
		}
	}
	return s
}

// whats are all that a motion may be about.
func whats() []int {
	return []int{api.MoveParams, api.MoveSpend, api.MoveOn, api.MoveOff}
}

// motions are all states that a motion may be in.
func motions() []int {
	return []int{api.MotionOpen, api.MotionPassed, api.MotionDone, api.MotionFailed}
}

// about is a motion about something, in a state.
func about(what, state int) api.Motion {
	m := api.Motion{What: what, Ends: 12, Due: 13, State: state, Yes: votes(), No: votes()}
	switch what {
	case api.MoveParams:
		m.Params = with(func(p *api.Params) { p.Delay = 7 })
	case api.MoveSpend:
		m.To, m.Amount = 1, 30
	}
	return m
}

// full is a state that fits, with something in every field: three accounts, and eight members of every status.
func full() api.State {
	params, spend := about(api.MoveParams, api.MotionOpen), about(api.MoveSpend, api.MotionPassed)
	params.Account, params.Due, params.Yes, params.No = 2, 0, votes(0), votes(5)
	on, off := about(api.MoveOn, api.MotionDone), about(api.MoveOff, api.MotionFailed)
	on.Yes, off.Account, off.To, off.Amount = votes(1, 5), 1, 2, 9
	return settle(api.State{
		Params: simple(), Most: 1 << 30, Minted: 60, Burned: 25, Treasury: 50,
		Epoch: 11, Calm: 3, Emergency: true,
		Purses: []uint64{300, 0, 200},
		Members: []api.Member{
			of(0, member(api.StatusActive, 25, 20), 8, 1),
			of(1, member(api.StatusLeaving, 40, 30), 7, 4),
			of(2, member(api.StatusPending, 15, 0), 0, 0),
			of(1, member(api.StatusOut, 0, 0), 50, 0),
			of(2, member(api.StatusLeft, 0, 0), 100, 2),
			of(0, member(api.StatusActive, 33, 30), 0, 0),
			of(2, member(api.StatusLeaving, 12, 10), 0, 0),
			of(0, member(api.StatusPending, 11, 0), 0, 0),
		},
		Entry: []int{7, 2}, Exit: []int{6, 1},
		Pool:    []api.Deposit{{Account: 1, Member: 3, Amount: 70}, {Account: 2, Amount: 30, New: true}, {Member: 5, Amount: 4}},
		Dues:    []api.Due{{Account: 1, At: 12, Amount: 40}, {Account: 0, At: 12, Amount: 5}, {Account: 0, At: 14, Amount: 30}},
		Motions: []api.Motion{params, spend, on, off},
		Marks:   votes(0, 5), Ring: [][]byte{votes(0, 1), votes(), votes(0, 127)},
	})
}

// changed is a full state that is changed in some way, and settled.
func changed(change func(s *api.State)) api.State {
	s := full()
	change(&s)
	return settle(s)
}

// bare is a state of so many purses of 5, with nothing else in it.
func bare(purses int) api.State {
	return settle(api.State{Params: simple(), Most: 1 << 30, Purses: slices.Repeat([]uint64{5}, purses), Marks: votes()})
}

// people are so many members, of each status in turn.
func people(n int) []api.Member {
	var list []api.Member
	for i := range n {
		m := of(i%api.MaxAccounts, member(statuses()[i%5], 0, 0), api.MaxScore, api.MaxStreak)
		switch m.Status {
		case api.StatusActive, api.StatusLeaving:
			m.Balance, m.Eff = api.MaxStake, api.MaxStake
		case api.StatusPending:
			m.Balance = api.MaxStake
		}
		list = append(list, m)
	}
	return list
}

// owed are dues of all accounts for each of so many ticks, the last of which is the last one that there may be.
func owed(ticks int, amount uint64) []api.Due {
	var list []api.Due
	for back := range ticks {
		for i := range api.MaxAccounts {
			list = append(list, api.Due{Account: i, At: mostTime - ticks + 1 + back, Amount: amount})
		}
	}
	return list
}

// great is a state that fits in which each list has as many as there may be, of dues as a genesis comes to; its numbers are great ones.
func great() api.State {
	s := api.State{
		Params: vast(), Most: api.MaxMoney, Epoch: api.MaxEpoch, Calm: api.MaxEpoch, Emergency: true,
		Minted: 1 << 50, Burned: 1 << 49, Treasury: 1 << 50,
		Purses:  slices.Repeat([]uint64{1 << 55}, api.MaxAccounts),
		Members: people(api.MaxMembers),
		Pool:    slices.Repeat([]api.Deposit{{Account: 63, Member: 127, Amount: 1 << 42}, {Account: 62, Amount: 1 << 42, New: true}}, api.MaxLine/2),
		Dues:    owed(api.MaxWait+1, 1<<49),
		Marks:   slices.Repeat([]byte{255}, 16),
	}
	for range api.MaxMotions {
		s.Motions = append(s.Motions, api.Motion{
			Account: 63, What: api.MoveParams, Params: vast(), To: 63, Amount: api.MaxMoney, Ends: mostTime, Due: mostTime,
			State: api.MotionPassed, Yes: slices.Repeat([]byte{255}, 16), No: slices.Repeat([]byte{254}, 16),
		})
	}
	for range api.MaxRing {
		s.Ring = append(s.Ring, slices.Repeat([]byte{255}, 16))
	}
	return settle(queued(s))
}

// measured is a state that fits whose image has just so many bytes, by its dues.
func measured(t *testing.T, size int) api.State {
	t.Helper()
	s := bare(1)
	// So much that the sum of it and of any dues has as many bytes.
	s.Most, s.Treasury = api.MaxMoney, 1<<50
	s.Dues = []api.Due{{At: 1 << 28, Amount: 1}}
	// Each due has seven bytes, so that less than seven are missing in the end: an amount that is 128 times as much has one more.
	missing := func() int { return size - len(text(settle(s))) }
	for n := missing(); n > 6; n = missing() {
		for range max(1, n/7-2) {
			s.Dues = append(s.Dues, api.Due{At: 1<<28 + len(s.Dues), Amount: 1})
		}
	}
	for range missing() {
		s.Dues[len(s.Dues)-1].Amount *= 128
	}
	if s = settle(s); missing() != 0 || !state.Fits(s) {
		t.Fatalf("an image of %d bytes has %d more", size, -missing())
	}
	return s
}

// sorts are states of every sort that fit.
func sorts() []api.State {
	list := []api.State{full(), bare(1), bare(2), bare(api.MaxAccounts), great()}
	for _, p := range right() {
		list = append(list, changed(func(s *api.State) { s.Motions[0].Params = p }))
		s := bare(3)
		s.Params = p
		list = append(list, s)
	}
	for _, what := range whats() {
		for _, state := range motions() {
			s := full()
			s.Motions = []api.Motion{about(what, state)}
			list = append(list, s)
		}
	}
	return list
}

// The helpers' own: what is right is right, and what fits fits.
func TestHelpers(t *testing.T) {
	for _, p := range right() {
		if param.Check(p) != api.OK {
			t.Fatalf("it isn't right: %+v", p)
		}
	}
	for _, p := range wrong() {
		if param.Check(p) != api.ErrParam {
			t.Fatalf("it is right: %+v", p)
		}
	}
	for _, s := range sorts() {
		if !state.Fits(s) {
			t.Fatal("it doesn't fit:", brief(s))
		}
	}
}
