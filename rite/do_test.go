package rite_test

import (
	"math"
	"reflect"
	"slices"
	"testing"

	"bullion/api"
	"bullion/rite"
)

// far are numbers at and far behind the ends of what has n places.
func far(n int) []int {
	return []int{
		math.MinInt, math.MinInt + 1, -1 << 32, -n, -2, -1, 0, 1, n - 2, n - 1, n, n + 1,
		31, 32, 63, 64, 65, 127, 128, 129, 255, 256, 1 << 30, mostTime, mostTime + 1, 1 << 32, 1<<32 + 1, math.MaxInt - 1, math.MaxInt,
	}
}

// want is ErrDeed for what isn't right of numbers up to most, the error for what there isn't of, and nothing else.
func want(i, there, most int, e api.Errno) api.Errno {
	switch {
	case i < 0 || i > most:
		return api.ErrDeed
	case i >= there:
		return e
	}
	return api.OK
}

// unfit are full states that don't fit, each for another reason.
func unfit() []api.State {
	list := []api.State{{}, {Params: simple(), Most: 1 << 30, Purses: []uint64{0}}}
	for _, change := range []func(s *api.State){
		func(s *api.State) { s.Treasury++ },
		func(s *api.State) { s.Treasury-- },
		func(s *api.State) { s.Genesis++ },
		func(s *api.State) { s.Most = s.Genesis + s.Minted - 1 },
		func(s *api.State) { s.Most = api.MaxMoney + 1 },
		func(s *api.State) { s.Params = api.Params{} },
		func(s *api.State) { s.Params.Poll = 0 },
		func(s *api.State) { s.Epoch = -1 },
		func(s *api.State) { s.Epoch = api.MaxEpoch + 1 },
		func(s *api.State) { s.Calm = -1 },
		func(s *api.State) { s.Members[3].Status = 0 },
		func(s *api.State) { s.Members[1].Eff = 10 },
		func(s *api.State) { s.Members[7].Owner = 3 },
		func(s *api.State) { s.Entry = []int{7} },
		func(s *api.State) { s.Exit = []int{6, 1, 0} },
		func(s *api.State) { s.Pool[0].Member = 8 },
		func(s *api.State) { s.Dues[2].At = 11 },
		func(s *api.State) { s.Motions[0].State = 0 },
		func(s *api.State) { s.Motions[3].Yes = nil },
		func(s *api.State) { s.Marks = nil },
		func(s *api.State) { s.Marks = votes(8) },
		func(s *api.State) { s.Ring = slices.Repeat([][]byte{votes()}, api.MaxRing+1) },
	} {
		s := full()
		change(&s)
		list = append(list, s)
	}
	return list
}

// spoiled are deeds that aren't right, made of ones that are.
func spoiled() []api.Deed {
	list := []api.Deed{{}, {Kind: -1}, {Kind: 8, Account: 1}, {Kind: math.MaxInt}, {Kind: math.MinInt}}
	for _, d := range deeds() {
		for _, change := range []func(d *api.Deed){
			func(d *api.Deed) { d.Kind = 0 },
			func(d *api.Deed) { d.Kind += 1 << 32 },
			func(d *api.Deed) { d.Account = -1 },
			func(d *api.Deed) { d.Account = api.MaxAccounts },
			func(d *api.Deed) { d.To = -1 },
			func(d *api.Deed) { d.Member = api.MaxMembers },
			func(d *api.Deed) { d.Motion = api.MaxMotions },
			func(d *api.Deed) { d.Amount = api.MaxMoney + 1 },
			func(d *api.Deed) { d.Epoch = api.MaxEpoch + 1 },
			func(d *api.Deed) { d.Bits = make([]byte, api.MaxBits/8+1) },
			func(d *api.Deed) { d.What = 5 },
			func(d *api.Deed) { d.Params = with(func(p *api.Params) { p.Inc = 0 }) },
			func(d *api.Deed) { d.Yes, d.Motion = d.Kind != api.DeedVote, 40 },
		} {
			spoiled := d
			change(&spoiled)
			list = append(list, spoiled)
		}
	}
	return list
}

// P25.1: what doesn't fit is refused ahead of all else, whatever is asked for.
func TestDoState(t *testing.T) {
	for _, s := range unfit() {
		for _, d := range deeds() {
			refuses(t, s, d, api.ErrState)
		}
		for _, d := range spoiled()[:20] {
			refuses(t, s, d, api.ErrState)
		}
	}
}

// P25.1: what isn't right is refused, of each kind.
func TestDoDeed(t *testing.T) {
	for _, d := range spoiled() {
		refuses(t, full(), d, api.ErrDeed)
		refuses(t, people(), d, api.ErrDeed)
	}
	for _, amount := range []uint64{0, api.MaxMoney + 1, top} {
		for _, d := range []api.Deed{send(0, 1, amount), stake(0, amount), more(0, 0, amount)} {
			refuses(t, full(), d, api.ErrDeed)
		}
	}
}

// P25.1: the account of all but DeedMark is a purse's place.
func TestDoAccount(t *testing.T) {
	for _, accounts := range []int{1, 2, 3, 17, api.MaxAccounts} {
		s := actives(4)
		s.Purses = slices.Repeat([]uint64{100}, accounts)
		s.Members[3].Owner = accounts - 1
		s = settle(s)
		for _, i := range far(accounts) {
			e := want(i, accounts, api.MaxAccounts-1, api.ErrAccount)
			list := []api.Deed{send(i, 0, 5), stake(i, 11), move(i, api.MoveOn), move(i, api.MoveParams)}
			if i == 0 || e != api.OK {
				list = append(list, more(i, 0, 5), leave(i, 0), vote(i, 0, 0, true))
			} else if i == accounts-1 {
				list = append(list, more(i, 3, 5), leave(i, 3), vote(i, 3, 0, false))
			}
			for _, d := range list {
				refuses(t, s, d, e)
			}
			spend := move(i, api.MoveSpend)
			spend.To = 0
			refuses(t, s, spend, e)
		}
	}
}

// P25.1: an account that DeedMark doesn't use is 0, and not asked for.
func TestDoMarkAccount(t *testing.T) {
	for _, i := range far(3) {
		d := mark(11, field(8, 1))
		d.Account = i
		refuses(t, full(), d, want(i, 1, 0, api.ErrDeed))
	}
}

// P25.1: To is a purse's place, of DeedSend and of DeedMove for MoveSpend; of others it is none of theirs.
func TestDoTo(t *testing.T) {
	for _, accounts := range []int{1, 2, 3, 17, api.MaxAccounts} {
		s := actives(1)
		s.Purses = slices.Repeat([]uint64{100}, accounts)
		s = settle(s)
		for _, i := range far(accounts) {
			e := want(i, accounts, api.MaxAccounts-1, api.ErrAccount)
			refuses(t, s, send(0, i, 5), e)
			spend := move(0, api.MoveSpend)
			spend.To = i
			refuses(t, s, spend, e)
			for _, what := range []int{api.MoveParams, api.MoveOn, api.MoveOff} {
				d := move(0, what)
				d.To = i
				refuses(t, s, d, want(i, 1, 0, api.ErrDeed))
			}
		}
	}
}

// P25.1: the member of DeedTop, DeedLeave and DeedVote is a member's place.
func TestDoMember(t *testing.T) {
	for _, n := range []int{0, 1, 2, 8, 9, api.MaxMembers - 1, api.MaxMembers} {
		s := actives(n)
		for _, i := range far(n) {
			e := want(i, n, api.MaxMembers-1, api.ErrMember)
			for _, d := range []api.Deed{more(0, i, 5), leave(0, i), vote(0, i, 0, true), vote(0, i, 0, false)} {
				refuses(t, s, d, e)
			}
		}
	}
}

// P25.1: the member's owner is the account.
func TestDoOwner(t *testing.T) {
	for owner := range 3 {
		for account := range 3 {
			s := changed(func(s *api.State) { s.Members[5].Owner = owner })
			e := api.ErrOwner
			if owner == account {
				e = api.OK
			}
			for _, d := range []api.Deed{more(account, 5, 5), leave(account, 5), vote(account, 5, 3, true)} {
				s.Motions[3].State = api.MotionOpen
				refuses(t, s, d, e)
			}
		}
	}
}

// P25.1: what is sent leaves a purse, and is in another one; from an account to itself nothing changes.
func TestSend(t *testing.T) {
	for _, c := range []struct {
		from, to int
		amount   uint64
		want     []uint64
	}{
		{0, 2, 1, []uint64{299, 100, 201}},
		{0, 2, 5, []uint64{295, 100, 205}},
		{0, 1, 299, []uint64{1, 399, 200}},
		{0, 1, 300, []uint64{0, 400, 200}},
		{1, 0, 100, []uint64{400, 0, 200}},
		{2, 1, 200, []uint64{300, 300, 0}},
		{0, 0, 1, []uint64{300, 100, 200}},
		{0, 0, 300, []uint64{300, 100, 200}},
		{2, 2, 199, []uint64{300, 100, 200}},
	} {
		after := does(t, full(), send(c.from, c.to, c.amount))
		if !alike(after, changed(func(s *api.State) { s.Purses = c.want })) {
			t.Fatalf("%+v: %v", c, after.Purses)
		}
	}
}

// P25.1: nobody sends more than it has, to itself neither.
func TestSendFunds(t *testing.T) {
	for from, has := range full().Purses {
		for to := range 3 {
			refuses(t, full(), send(from, to, has), api.OK)
			for _, amount := range []uint64{has + 1, has + 2, 1 << 32, 1<<32 + 1, 1 << 40, api.MaxMoney - 1, api.MaxMoney} {
				refuses(t, full(), send(from, to, amount), api.ErrFunds)
			}
		}
	}
	nothing := changed(func(s *api.State) { s.Purses[0] = 0 })
	refuses(t, nothing, send(0, 1, 1), api.ErrFunds)
	refuses(t, nothing, send(0, 0, 1), api.ErrFunds)
	refuses(t, nothing, send(0, 0, 0), api.ErrDeed)
}

// P25.1: all money that there may be is sent.
func TestSendMost(t *testing.T) {
	s := changed(func(s *api.State) { *s = people(); s.Most = api.MaxMoney })
	s.Purses[1] += api.MaxMoney - s.Genesis - s.Minted
	s = settle(s)
	after := does(t, s, send(1, 0, s.Purses[1]))
	after = does(t, after, send(0, 2, after.Purses[0]))
	if !slices.Equal(after.Purses, []uint64{0, 0, api.MaxMoney - 1000 - 20}) {
		t.Fatal(after.Purses)
	}
	refuses(t, after, send(2, 1, after.Purses[2]+1), api.ErrFunds)
	after = does(t, after, stake(2, after.Purses[2]))
	if after.Purses[2] != 0 || after.Pool[0].Amount != api.MaxMoney-1000-20 {
		t.Fatalf("%+v", after)
	}
}

// P25.1: a stake is above Floor, and no more than the purse has; a new deposit of it waits as the last one.
func TestStake(t *testing.T) {
	for _, c := range []struct {
		amount uint64
		e      api.Errno
	}{
		{1, api.ErrSmall}, {9, api.ErrSmall}, {10, api.ErrSmall}, {11, api.OK}, {12, api.OK}, {40, api.OK}, {41, api.OK},
		{99, api.OK}, {100, api.OK}, {101, api.ErrFunds}, {102, api.ErrFunds}, {300, api.ErrFunds}, {1<<32 + 11, api.ErrFunds}, {api.MaxMoney, api.ErrFunds},
	} {
		after, e := done(t, full(), stake(1, c.amount))
		if e != c.e {
			t.Fatalf("%+v: %d", c, e)
		}
		if e == api.OK && !alike(after, changed(func(s *api.State) {
			s.Purses[1] -= c.amount
			s.Pool = append(s.Pool, api.Deposit{Account: 1, Amount: c.amount, New: true})
		})) {
			t.Fatalf("%+v: %+v", c, after)
		}
	}
}

// P25.1: Floor is the one in force.
func TestStakeFloor(t *testing.T) {
	for _, floor := range []uint64{10, 11, 20, 38, 39} {
		s := people()
		s.Params.Floor, s.Params.ScoreCap = floor, 3000
		for amount := floor - 1; amount <= floor+2; amount++ {
			e := api.OK
			if amount <= floor {
				e = api.ErrSmall
			}
			refuses(t, s, stake(0, amount), e)
		}
		refuses(t, s, stake(1, 200), api.OK)
		refuses(t, s, stake(1, 201), api.ErrFunds)
	}
}

// P25.1: a stake waits of whichever account, behind those that it has already.
func TestStakeAgain(t *testing.T) {
	s := full()
	for i := range 3 {
		for range 3 {
			s = does(t, s, stake(i, 20))
		}
	}
	if len(s.Pool) != 12 || !slices.Equal(s.Purses, []uint64{240, 40, 140}) {
		t.Fatalf("%+v", s)
	}
	for at, d := range s.Pool[3:] {
		if (d != api.Deposit{Account: at / 3, Amount: 20, New: true}) {
			t.Fatalf("%d: %+v", at, d)
		}
	}
}

// P25.1: what tops a member is a deposit for it, whatever its status, of no more than the purse has.
func TestTop(t *testing.T) {
	for _, status := range statuses() {
		s := people(api.StatusActive, status)
		for _, c := range []struct {
			amount uint64
			e      api.Errno
		}{
			{1, api.OK}, {9, api.OK}, {10, api.OK}, {11, api.OK}, {40, api.OK}, {41, api.OK}, {499, api.OK}, {500, api.OK},
			{501, api.ErrFunds}, {502, api.ErrFunds}, {1<<32 + 1, api.ErrFunds}, {api.MaxMoney, api.ErrFunds},
		} {
			after, e := done(t, s, more(0, 1, c.amount))
			if e != c.e {
				t.Fatalf("%d, %+v: %d", status, c, e)
			}
			if e != api.OK {
				continue
			}
			to := plain(s)
			to.Purses[0] -= c.amount
			to.Pool = []api.Deposit{{Member: 1, Amount: c.amount}}
			if !alike(after, to) {
				t.Fatalf("%d, %+v: %+v", status, c, after)
			}
		}
	}
}

// P25.1: a deposit for a member waits as the last one, behind those for it that wait.
func TestTopAgain(t *testing.T) {
	s := does(t, does(t, does(t, full(), more(0, 5, 4)), more(1, 1, 6)), more(0, 0, 8))
	list := append(full().Pool, api.Deposit{Member: 5, Amount: 4}, api.Deposit{Account: 1, Member: 1, Amount: 6}, api.Deposit{Amount: 8})
	if !slices.Equal(s.Pool, list) || !slices.Equal(s.Purses, []uint64{288, 94, 200}) {
		t.Fatalf("%+v", s)
	}
}

// P25.1: at most MaxLine deposits wait.
func TestDepositFull(t *testing.T) {
	for n, e := range map[int]api.Errno{
		0: api.OK, 1: api.OK, 100: api.OK, api.MaxLine - 2: api.OK, api.MaxLine - 1: api.OK, api.MaxLine: api.ErrFull,
	} {
		s := changed(func(s *api.State) { s.Pool = waiting(n) })
		for _, d := range []api.Deed{stake(0, 11), stake(0, 300), more(0, 0, 1), more(1, 3, 100), more(2, 4, 2)} {
			after, got := done(t, s, d)
			if got != e {
				t.Fatalf("%d deposits, %+v: %d", n, d, got)
			}
			if got != api.OK {
				continue
			}
			if last := after.Pool[n]; len(after.Pool) != n+1 || last.Amount != d.Amount || last.New != (d.Kind == api.DeedStake) {
				t.Fatalf("%d deposits, %+v: %+v", n, d, after.Pool)
			}
		}
	}
}

// P25.1: who is active, and nobody else, asks to leave, and waits as the last one.
func TestLeave(t *testing.T) {
	for _, exit := range [][]int{nil, {2}, {3, 2}, {2, 3}} {
		for _, status := range statuses() {
			s := people(status, api.StatusActive, api.StatusActive, api.StatusActive)
			for _, i := range exit {
				s = does(t, s, leave(0, i))
			}
			before := s.Exit
			after, e := done(t, s, leave(0, 0))
			if (e == api.OK) != (status == api.StatusActive) || e != api.OK && e != api.ErrStatus {
				t.Fatalf("%d: %d", status, e)
			}
			if e != api.OK {
				continue
			}
			if after.Members[0].Status != api.StatusLeaving || !slices.Equal(after.Exit, append(slices.Clone(before), 0)) {
				t.Fatalf("%+v", after)
			}
			refuses(t, after, leave(0, 0), api.ErrStatus)
		}
	}
}

// P25.1: a member that asks to leave keeps what it has, and all others are as they were.
func TestLeaveKeeps(t *testing.T) {
	for _, i := range []int{0, 5} {
		after := does(t, full(), leave(0, i))
		if !alike(after, changed(func(s *api.State) {
			s.Members[i].Status = api.StatusLeaving
			s.Exit = []int{6, 1, i}
		})) {
			t.Fatalf("%+v", after)
		}
	}
	both := does(t, does(t, full(), leave(0, 5)), leave(0, 0))
	if !slices.Equal(both.Exit, []int{6, 1, 5, 0}) {
		t.Fatal(both.Exit)
	}
}

// P25.1: all that there may be ask to leave.
func TestLeaveAll(t *testing.T) {
	s := actives(api.MaxMembers)
	for i := range api.MaxMembers {
		at := (i*37 + 5) % api.MaxMembers
		after, e := rite.Do(s, leave(0, at))
		if e != api.OK || len(after.Exit) != i+1 || after.Exit[i] != at {
			t.Fatalf("%d: %v, %d", at, after.Exit, e)
		}
		sound(t, s, after)
		s = after
	}
}

// P25.1: marks are for the state's epoch.
func TestMarkEpoch(t *testing.T) {
	for _, epoch := range []int{0, 1, 2, 11, 1000, api.MaxEpoch - 1, api.MaxEpoch} {
		s := actives(2)
		s.Epoch = epoch
		for _, at := range append(far(2), epoch-1, epoch, epoch+1, epoch+1<<32) {
			e := api.ErrEpoch
			switch {
			case at < 0 || at > api.MaxEpoch:
				e = api.ErrDeed
			case at == epoch:
				e = api.OK
			}
			refuses(t, s, mark(at, []byte{3}), e)
		}
	}
}

// P25.1: marks are a field of just the members that there are.
func TestMarkBits(t *testing.T) {
	for _, n := range []int{0, 1, 2, 7, 8, 9, 63, 64, 65, 120, 127, 128} {
		s := actives(n)
		for size := range api.MaxBits/8 + 3 {
			e := api.ErrBits
			switch {
			case size > api.MaxBits/8:
				e = api.ErrDeed
			case size == (n+7)/8:
				e = api.OK
			}
			refuses(t, s, mark(11, make([]byte, size)), e)
		}
		for i := range (n + 7) / 8 * 8 {
			e := api.OK
			if i >= n {
				e = api.ErrBits
			}
			refuses(t, s, mark(11, field(n, i)), e)
		}
		refuses(t, s, mark(11, field(n, all(n)...)), api.OK)
	}
	refuses(t, actives(0), mark(11, nil), api.OK)
	refuses(t, actives(0), mark(11, []byte{}), api.OK)
	refuses(t, actives(1), mark(11, nil), api.ErrBits)
}

// P25.1: each bit is 1 that is in the marks, or in the bits, of a member of whatever status.
func TestMarkJoins(t *testing.T) {
	for _, was := range [][]int{nil, {0}, {0, 5}, {7}, {1, 2, 3, 4, 6}, all(8)} {
		s := changed(func(s *api.State) { s.Marks = votes(was...) })
		for i := range 8 {
			after := does(t, s, mark(11, field(8, i)))
			if !slices.Equal(after.Marks, votes(append(slices.Clone(was), i)...)) {
				t.Fatalf("%v, %d: %v", was, i, after.Marks)
			}
		}
		after := does(t, s, mark(11, field(8)))
		if !alike(after, s) {
			t.Fatalf("%+v", after)
		}
		after = does(t, s, mark(11, field(8, 1, 5, 6)))
		if !alike(after, changed(func(s *api.State) { s.Marks = votes(append(slices.Clone(was), 1, 5, 6)...) })) {
			t.Fatalf("%+v", after)
		}
	}
	long := actives(api.MaxMembers)
	long.Marks = votes(0, 64, 127)
	after := does(t, long, mark(11, field(128, 63, 64, 126)))
	if !slices.Equal(after.Marks, votes(0, 63, 64, 126, 127)) {
		t.Fatal(after.Marks)
	}
}

// P25.1: a motion costs Bond, which goes from the purse to the treasury.
func TestMoveBond(t *testing.T) {
	for _, bond := range []uint64{0, 1, 2, 50, 99, 100, 101, 102, 1 << 32, api.MaxStake - 1, api.MaxStake} {
		for _, what := range whats() {
			s := changed(func(s *api.State) { s.Params.Bond = bond })
			after, e := done(t, s, move(1, what))
			if (e == api.OK) != (bond <= 100) || e != api.OK && e != api.ErrFunds {
				t.Fatalf("%d, %d: %d", bond, what, e)
			}
			if e == api.OK && (!slices.Equal(after.Purses, []uint64{300, 100 - bond, 200}) || after.Treasury != 50+bond) {
				t.Fatalf("%d, %d: %v, %d", bond, what, after.Purses, after.Treasury)
			}
		}
	}
	poor := changed(func(s *api.State) { s.Purses[1], s.Params.Bond = 0, 0 })
	refuses(t, poor, move(1, api.MoveOn), api.OK)
	poor.Params.Bond = 1
	refuses(t, poor, move(1, api.MoveOn), api.ErrFunds)
}

// P25.1: there is the motion, open until Poll ticks are over, at the first place that is free.
func TestMove(t *testing.T) {
	for _, what := range whats() {
		for _, poll := range []int{1, 2, 7, api.MaxTicks} {
			d := move(2, what)
			s := changed(func(s *api.State) { s.Params.Poll = poll })
			after := does(t, s, d)
			motion := api.Motion{
				Account: 2, What: what, Params: d.Params, To: d.To, Amount: d.Amount, Ends: 11 + poll,
				State: api.MotionOpen, Yes: votes(), No: votes(),
			}
			if !reflect.DeepEqual(after.Motions[2], motion) {
				t.Fatalf("%+v, want %+v", after.Motions[2], motion)
			}
			after.Motions[2] = s.Motions[2]
			after.Purses[2]++
			after.Treasury--
			if !alike(after, s) {
				t.Fatalf("%+v", after)
			}
		}
	}
}

// P25.1: a motion stands at the first place whose motion is over, or behind all.
func TestMovePlace(t *testing.T) {
	open, passed, done, failed := api.MotionOpen, api.MotionPassed, api.MotionDone, api.MotionFailed
	for _, c := range []struct {
		states []int
		at     int
	}{
		{nil, 0}, {[]int{open}, 1}, {[]int{passed}, 1}, {[]int{done}, 0}, {[]int{failed}, 0},
		{[]int{open, passed, open}, 3}, {[]int{open, done, failed}, 1}, {[]int{passed, failed, done}, 1}, {[]int{open, passed, open, done}, 3},
	} {
		s := full()
		s.Motions = nil
		for _, state := range c.states {
			s.Motions = append(s.Motions, in(state, about(api.MoveSpend)))
		}
		after := does(t, s, move(0, api.MoveOff))
		if len(after.Motions) != max(len(c.states), c.at+1) || after.Motions[c.at].What != api.MoveOff || after.Motions[c.at].State != open {
			t.Fatalf("%v: %+v", c.states, after.Motions)
		}
	}
}

// P25.1: at most MaxMotions motions aren't over: layer 23's ErrFull. Its other errors are of states that don't fit, and of deeds that aren't right.
func TestMoveFull(t *testing.T) {
	for _, state := range states() {
		for n := range api.MaxMotions + 1 {
			s := changed(func(s *api.State) { s.Motions = moved(n, state) })
			e := api.OK
			if n == api.MaxMotions && (state == api.MotionOpen || state == api.MotionPassed) {
				e = api.ErrFull
			}
			for _, what := range whats() {
				refuses(t, s, move(1, what), e)
			}
			if n > 0 && e != api.OK {
				s.Motions[n-1].State = api.MotionFailed
				refuses(t, s, move(1, api.MoveOn), api.OK)
			}
		}
	}
	wrong := move(1, api.MoveParams)
	wrong.Params.Quot = 0
	refuses(t, full(), wrong, api.ErrDeed)
	s := full()
	s.Params.Poll = api.MaxTicks + 1
	refuses(t, s, move(1, api.MoveOn), api.ErrState)
}

// P25.1: also in the last epoch there is something moved, of any parameters that are right.
func TestMoveLast(t *testing.T) {
	for _, epoch := range []int{0, api.MaxEpoch - 1, api.MaxEpoch} {
		for _, poll := range []int{1, api.MaxTicks} {
			s := changed(func(s *api.State) { s.Epoch, s.Params.Poll = epoch, poll })
			after := does(t, s, move(0, api.MoveParams))
			if after.Motions[2].Ends != epoch+poll {
				t.Fatal(after.Motions[2])
			}
		}
	}
	d := move(0, api.MoveSpend)
	for _, amount := range []uint64{1, 50, 51, api.MaxMoney} {
		d.Amount = amount
		if after := does(t, full(), d); after.Motions[2].Amount != amount {
			t.Fatal(after.Motions[2])
		}
	}
	for _, amount := range []uint64{0, api.MaxMoney + 1} {
		d.Amount = amount
		refuses(t, full(), d, api.ErrDeed)
	}
}

// P25.1: who counts votes, and nobody else.
func TestVote(t *testing.T) {
	for _, yes := range []bool{true, false} {
		for _, status := range statuses() {
			s := people(api.StatusActive, status, api.StatusLeaving)
			after, e := done(t, s, vote(0, 1, 0, yes))
			if (e == api.OK) != (status == api.StatusActive || status == api.StatusLeaving) || e != api.OK && e != api.ErrStatus {
				t.Fatalf("%d: %d", status, e)
			}
			if e != api.OK {
				continue
			}
			to := plain(s)
			if yes {
				to.Motions[0].Yes = votes(1)
			} else {
				to.Motions[0].No = votes(1)
			}
			if !alike(after, to) {
				t.Fatalf("%+v", after)
			}
			refuses(t, after, vote(0, 1, 0, yes), api.ErrTwice)
			refuses(t, after, vote(0, 1, 0, !yes), api.ErrTwice)
			refuses(t, after, vote(0, 0, 0, yes), api.OK)
			refuses(t, after, vote(0, 2, 0, !yes), api.OK)
		}
	}
}

// P25.1: all that there may be vote, on each motion.
func TestVoteAll(t *testing.T) {
	s := actives(api.MaxMembers)
	s.Motions = moved(3, api.MotionOpen)
	for i, m := range s.Motions {
		s.Motions[i].Yes, s.Motions[i].No = slices.Clone(m.Yes), slices.Clone(m.No)
	}
	for i := range api.MaxMembers {
		for motion := range 3 {
			after, e := rite.Do(s, vote(0, i, motion, (i+motion)%2 == 0))
			if e != api.OK {
				t.Fatalf("%d of %d: %d", i, motion, e)
			}
			s = after
		}
	}
	for motion, m := range s.Motions {
		for i := range api.MaxMembers {
			if yes := (i+motion)%2 == 0; bit(m.Yes, i) != yes || bit(m.No, i) == yes {
				t.Fatalf("%d of %d: %v, %v", i, motion, m.Yes, m.No)
			}
		}
	}
	refuses(t, s, vote(0, 77, 1, true), api.ErrTwice)
}

// P25.1: a motion that is voted on is there.
func TestVoteMotion(t *testing.T) {
	for _, n := range []int{0, 1, 4, api.MaxMotions - 1, api.MaxMotions} {
		s := changed(func(s *api.State) { s.Motions = moved(n, api.MotionOpen) })
		for _, i := range far(n) {
			refuses(t, s, vote(0, 5, i, true), want(i, n, api.MaxMotions-1, api.ErrMotion))
			refuses(t, s, vote(2, 6, i, false), want(i, n, api.MaxMotions-1, api.ErrMotion))
		}
	}
}

// P25.1: a motion that is voted on is open; one whose time has come is, until it is closed.
func TestVoteClosed(t *testing.T) {
	for _, state := range states() {
		for _, what := range whats() {
			for _, ends := range []int{0, 10, 11, 12, 100, mostTime} {
				s := changed(func(s *api.State) {
					s.Motions[1] = in(state, about(what))
					s.Motions[1].Ends = ends
				})
				e := api.ErrClosed
				if state == api.MotionOpen {
					e = api.OK
				}
				refuses(t, s, vote(1, 1, 1, true), e)
				refuses(t, s, vote(1, 1, 1, false), e)
			}
		}
	}
}

// P25.1: a vote counts once, also for who has voted otherwise.
func TestVoteTwice(t *testing.T) {
	for _, c := range []struct {
		yes, no []byte
		e       api.Errno
	}{
		{votes(), votes(), api.OK}, {votes(1), votes(), api.ErrTwice}, {votes(), votes(1), api.ErrTwice}, {votes(1), votes(1), api.ErrTwice},
		{votes(0, 2, 9), votes(3, 5, 127), api.OK}, {votes(0, 1, 2), votes(), api.ErrTwice}, {votes(65), votes(129 - 64), api.OK},
	} {
		s := changed(func(s *api.State) { s.Motions[0].Yes, s.Motions[0].No = c.yes, c.no })
		refuses(t, s, vote(1, 1, 0, true), c.e)
		refuses(t, s, vote(1, 1, 0, false), c.e)
	}
}
