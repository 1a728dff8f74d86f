package rite_test

import (
	"slices"
	"testing"

	"bullion/api"
	"bullion/state"
)

const (
	top      = 1<<64 - 1
	mostTime = 1<<31 - 1
)

// simple are the parameters of the document's examples.
func simple() api.Params {
	return api.Params{
		Inc: 10, MaxEff: 30, Floor: 10, Cap: 40, Up: 10, Down: 5,
		Bias: 4, Quot: 100, BiasEm: 8, QuotEm: 50, Recover: 2, ScoreCap: 100,
		Rate: 1 << 20, Bond: 1, Delay: 2, Streak: 4, Boost: 100, Absent: 100, Burn: 5000,
		Churn: 2, Wait: 2, Poll: 2, Enact: 1, Quorum: 3000,
	}
}

// with are those, changed in some way.
func with(change func(p *api.Params)) api.Params {
	p := simple()
	change(&p)
	return p
}

// votes is a field of all members in which the bits at these places are 1.
func votes(places ...int) []byte {
	b := make([]byte, 16)
	for _, i := range places {
		b[i/8] |= 1 << (i % 8)
	}
	return b
}

// field is one of n members.
func field(n int, places ...int) []byte { return votes(places...)[:(n+7)/8] }

// all are all places of so many.
func all(n int) []int {
	var list []int
	for i := range n {
		list = append(list, i)
	}
	return list
}

// member is one with a status, a balance and an effective balance, of the account 0.
func member(status int, balance, eff uint64) api.Member {
	return api.Member{Standing: api.Standing{Balance: balance, Eff: eff}, Status: status}
}

// somebody is a member of a status that fits.
func somebody(status int) api.Member {
	switch status {
	case api.StatusActive, api.StatusLeaving:
		return member(status, 25, 20)
	case api.StatusPending:
		return member(status, 15, 0)
	default:
		return member(status, 0, 0)
	}
}

// statuses are all that a member may have.
func statuses() []int {
	return []int{api.StatusPending, api.StatusActive, api.StatusLeaving, api.StatusOut, api.StatusLeft}
}

// of is a member of an account, with a score and a streak.
func of(owner int, m api.Member, score uint64, streak int) api.Member {
	m.Owner, m.Score, m.Streak = owner, score, streak
	return m
}

// settle makes the money there is what there was at the beginning.
func settle(s api.State) api.State {
	there := whole(append(partsOf(s), s.Burned)...)
	s.Genesis = there.Sub(there, whole(s.Minted)).Uint64()
	return s
}

// queued makes both queues what the members' statuses ask, the last places first.
func queued(s api.State) api.State {
	s.Entry, s.Exit = nil, nil
	for i, m := range s.Members {
		switch m.Status {
		case api.StatusPending:
			s.Entry = append([]int{i}, s.Entry...)
		case api.StatusLeaving:
			s.Exit = append([]int{i}, s.Exit...)
		}
	}
	return s
}

// whats are all that a motion may be about.
func whats() []int {
	return []int{api.MoveParams, api.MoveSpend, api.MoveOn, api.MoveOff}
}

// states are all that a motion may be in.
func states() []int {
	return []int{api.MotionOpen, api.MotionPassed, api.MotionDone, api.MotionFailed}
}

// about is an open motion about something, which ends in the epoch 12.
func about(what int) api.Motion {
	m := api.Motion{What: what, Ends: 12, State: api.MotionOpen, Yes: votes(), No: votes()}
	switch what {
	case api.MoveParams:
		m.Params = with(func(p *api.Params) { p.Delay = 7 })
	case api.MoveSpend:
		m.To, m.Amount = 1, 30
	}
	return m
}

// in is a motion in a state.
func in(state int, m api.Motion) api.Motion {
	m.State, m.Due = state, 13
	return m
}

// full is a state that fits, with something in every field: three accounts, and eight members of every status, of which the places 0, 1, 5 and 6 count.
func full() api.State {
	params, spend := about(api.MoveParams), in(api.MotionPassed, about(api.MoveSpend))
	params.Account, params.Yes, params.No = 2, votes(0), votes(5)
	on, off := in(api.MotionDone, about(api.MoveOn)), in(api.MotionFailed, about(api.MoveOff))
	on.Yes, off.Account, off.To, off.Amount = votes(1, 5), 1, 2, 9
	return settle(api.State{
		Params: simple(), Most: 1 << 30, Minted: 60, Burned: 25, Treasury: 50,
		Epoch: 11, Calm: 3, Emergency: true,
		Purses: []uint64{300, 100, 200},
		Members: []api.Member{
			of(0, member(api.StatusActive, 25, 20), 8, 1),
			of(1, member(api.StatusLeaving, 40, 30), 7, 4),
			of(2, member(api.StatusPending, 15, 0), 0, 0),
			of(1, member(api.StatusOut, 0, 0), 50, 0),
			of(2, member(api.StatusLeft, 0, 0), 100, 2),
			of(0, member(api.StatusActive, 33, 30), 0, 0),
			of(2, member(api.StatusLeaving, 12, 10), 0, 0),
			of(0, member(api.StatusPending, 11, 0), 0, 0),
		},
		Entry: []int{7, 2}, Exit: []int{6, 1},
		Pool:    []api.Deposit{{Account: 1, Member: 3, Amount: 70}, {Account: 2, Amount: 30, New: true}, {Member: 5, Amount: 4}},
		Dues:    []api.Due{{Account: 1, At: 12, Amount: 40}, {Account: 0, At: 12, Amount: 5}, {Account: 0, At: 14, Amount: 30}},
		Motions: []api.Motion{params, spend, on, off},
		Marks:   votes(0, 5), Ring: [][]byte{votes(0, 1), votes(), votes(0, 127)},
	})
}

// changed is a full state that is changed in some way, and settled.
func changed(change func(s *api.State)) api.State {
	s := full()
	change(&s)
	return settle(s)
}

// waiting are so many deposits.
func waiting(n int) []api.Deposit {
	return slices.Repeat([]api.Deposit{{Account: 1, Member: 3, Amount: 2}}, n)
}

// moved are so many motions in a state.
func moved(n, state int) []api.Motion {
	return slices.Repeat([]api.Motion{in(state, about(api.MoveOn))}, n)
}

// people is a state of members of these statuses, all of the account 0, in the epoch 11, with an open motion.
func people(statuses ...int) api.State {
	s := api.State{
		Params: simple(), Most: 1 << 30, Minted: 40, Burned: 20, Treasury: 1000, Epoch: 11,
		Purses: []uint64{500, 200, 100}, Motions: moved(1, api.MotionOpen), Marks: votes(),
	}
	for _, status := range statuses {
		s.Members = append(s.Members, somebody(status))
	}
	return settle(queued(s))
}

// actives are so many who are active.
func actives(n int) api.State {
	return people(slices.Repeat([]int{api.StatusActive}, n)...)
}

// The deeds, each as short as it is told.
func send(account, to int, amount uint64) api.Deed {
	return api.Deed{Kind: api.DeedSend, Account: account, To: to, Amount: amount}
}

func stake(account int, amount uint64) api.Deed {
	return api.Deed{Kind: api.DeedStake, Account: account, Amount: amount}
}

func more(account, member int, amount uint64) api.Deed {
	return api.Deed{Kind: api.DeedTop, Account: account, Member: member, Amount: amount}
}

func leave(account, member int) api.Deed {
	return api.Deed{Kind: api.DeedLeave, Account: account, Member: member}
}

func mark(epoch int, bits []byte) api.Deed {
	return api.Deed{Kind: api.DeedMark, Epoch: epoch, Bits: bits}
}

func vote(account, member, motion int, yes bool) api.Deed {
	return api.Deed{Kind: api.DeedVote, Account: account, Member: member, Motion: motion, Yes: yes}
}

// move is a deed that moves something, spending as much as a motion that is about it.
func move(account, what int) api.Deed {
	m := about(what)
	return api.Deed{Kind: api.DeedMove, Account: account, What: what, Params: m.Params, To: m.To, Amount: m.Amount}
}

// deeds is one of each kind, a move of each What, all of which are done to a full state one by one.
func deeds() []api.Deed {
	list := []api.Deed{send(0, 2, 5), stake(2, 30), more(1, 3, 7), leave(0, 5), mark(11, field(8, 1, 6)), vote(1, 1, 0, true)}
	for _, what := range whats() {
		list = append(list, move(1, what))
	}
	return list
}

// The helpers' own: the states fit.
func TestHelpers(t *testing.T) {
	for _, s := range []api.State{full(), people(), people(statuses()...), actives(api.MaxMembers), changed(func(s *api.State) { s.Pool = waiting(api.MaxLine) })} {
		if !state.Fits(s) || !accounted(s) {
			t.Fatalf("%+v", s)
		}
	}
	for _, d := range deeds() {
		does(t, full(), d)
	}
}
