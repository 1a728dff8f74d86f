package state_test

import (
	"math/big"
	"slices"
	"testing"

	"bullion/api"
)

// votes is a field of all members in which the bits at these places are 1.
func votes(places ...int) []byte {
	b := make([]byte, 16)
	for _, i := range places {
		b[i/8] |= 1 << (i % 8)
	}
	return b
}

// member is one with a status, a balance and an effective balance, of the account 0.
func member(status int, balance, eff uint64) api.Member {
	return api.Member{Standing: api.Standing{Balance: balance, Eff: eff}, Status: status}
}

// active, leaving, pending are members that fit simple parameters; of those that are gone there is nothing.
func active(balance uint64) api.Member {
	return member(api.StatusActive, balance, min(balance/10*10, 30))
}

func leaving(balance uint64) api.Member {
	return member(api.StatusLeaving, balance, min(balance/10*10, 30))
}

func pending(balance uint64) api.Member { return member(api.StatusPending, balance, 0) }

// stood is a member with a score and a streak.
func stood(m api.Member, score uint64, streak int) api.Member {
	m.Score, m.Streak = score, streak
	return m
}

// of is a member of an account.
func of(owner int, m api.Member) api.Member {
	m.Owner = owner
	return m
}

// settle makes the money there is what there was at the beginning.
func settle(s api.State) api.State {
	there := whole(append(partsOf(s), s.Burned)...)
	s.Genesis = there.Sub(there, whole(s.Minted)).Uint64()
	return s
}

// about is an open motion about something, which ends in the epoch 5.
func about(what int) api.Motion {
	m := api.Motion{What: what, Ends: 5, State: api.MotionOpen, Yes: votes(), No: votes()}
	switch what {
	case api.MoveParams:
		m.Params = with(func(p *api.Params) { p.Delay = 7 })
	case api.MoveSpend:
		m.To, m.Amount = 1, 30
	}
	return m
}

// passed is a motion that waits to be done in an epoch.
func passed(m api.Motion, due int) api.Motion {
	m.State, m.Due = api.MotionPassed, due
	return m
}

// whats are all that a motion may be about.
func whats() []int {
	return []int{api.MoveParams, api.MoveSpend, api.MoveOn, api.MoveOff}
}

// full is a state that fits, with something in every field.
func full() api.State {
	params, spend := about(api.MoveParams), passed(about(api.MoveSpend), 13)
	params.Account, params.Ends, params.Yes, params.No = 2, 12, votes(0), votes(5)
	on, off := about(api.MoveOn), about(api.MoveOff)
	on.State, on.Due, on.Yes = api.MotionDone, 9, votes(1, 5)
	off.State, off.Account, off.To, off.Amount = api.MotionFailed, 1, 2, 9
	return settle(api.State{
		Params: simple(), Most: 1 << 30, Minted: 60, Burned: 25, Treasury: 50,
		Epoch: 11, Calm: 3, Emergency: true,
		Purses: []uint64{300, 0, 200},
		Members: []api.Member{
			stood(active(25), 8, 1),
			of(1, stood(leaving(40), 7, 4)),
			of(2, pending(15)),
			of(1, stood(member(api.StatusOut, 0, 0), 50, 0)),
			of(2, stood(member(api.StatusLeft, 0, 0), 100, 2)),
			active(33),
			of(2, leaving(12)),
			pending(11),
		},
		Entry: []int{7, 2}, Exit: []int{6, 1},
		Pool:    []api.Deposit{{Account: 1, Member: 3, Amount: 70}, {Account: 2, Amount: 30, New: true}, {Member: 5, Amount: 4}},
		Dues:    []api.Due{{Account: 1, At: 12, Amount: 40}, {Account: 0, At: 12, Amount: 5}, {Account: 0, At: 14, Amount: 30}},
		Motions: []api.Motion{params, spend, on, off},
		Marks:   votes(0, 5), Ring: [][]byte{votes(0, 1), votes(), votes(0, 127)},
	})
}

// changed is a full state that is changed in some way, and settled.
func changed(change func(s *api.State)) api.State {
	s := full()
	change(&s)
	return settle(s)
}

// calls are members who count, of the account 0 and 1 in turn, in the epoch 5, of whom those at these places are marked.
func calls(members []api.Member, present ...int) api.State {
	s := api.State{
		Params: simple(), Most: 1 << 30, Minted: 40, Burned: 20, Treasury: 1000, Epoch: 5,
		Purses: []uint64{500, 200, 100}, Members: members, Marks: votes(present...),
	}
	for i, m := range members {
		switch m.Status {
		case api.StatusPending:
			s.Entry = append(s.Entry, i)
		case api.StatusLeaving:
			s.Exit = append(s.Exit, i)
		}
	}
	return settle(s)
}

// but is a state that is changed in some way, and settled.
func but(s api.State, change func(s *api.State)) api.State {
	s = plain(s)
	change(&s)
	return settle(s)
}

// several is so many of a member.
func several(n int, m api.Member) []api.Member { return slices.Repeat([]api.Member{m}, n) }

// all are all places of so many.
func all(n int) []int {
	var list []int
	for i := range n {
		list = append(list, i)
	}
	return list
}

// The helpers' own: a full state fits, and is settled.
func TestFull(t *testing.T) {
	fits(t, full(), true)
	sum := new(big.Int).Sub(whole(partsOf(full())...), whole(full().Genesis, full().Minted))
	if sum.Cmp(big.NewInt(-25)) != 0 {
		t.Fatal(sum)
	}
	fits(t, calls([]api.Member{active(20), leaving(40), pending(11)}, 0), true)
}
