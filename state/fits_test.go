package state_test

import (
	"math"
	"slices"
	"testing"

	"bullion/api"
)

// ints are numbers at which something changes of which there may be up to most.
func ints(most int) []int {
	return []int{math.MinInt, -1 << 32, -2, -1, 0, 1, most - 1, most, most + 1, 1 << 32, 1<<32 + 1, math.MaxInt - 1, math.MaxInt}
}

// within says whether a number is from its least to its most.
func within(n, least, most int) bool { return n >= least && n <= most }

// bare is a state of so many purses, with nothing else in it.
func bare(purses int) api.State {
	return settle(api.State{Params: simple(), Most: 1 << 30, Purses: slices.Repeat([]uint64{7}, purses), Marks: votes()})
}

// P24.2: a state with something in every field fits, and so does one with almost nothing.
func TestFits(t *testing.T) {
	fits(t, full(), true)
	fits(t, bare(1), true)
	fits(t, api.State{}, false)
	// A state of nothing but lists that are right lacks parameters, or purses.
	fits(t, api.State{Purses: []uint64{0}, Marks: votes()}, false)
	fits(t, api.State{Params: simple(), Marks: votes()}, false)
	fits(t, api.State{Params: simple(), Purses: []uint64{0}}, false)
	fits(t, api.State{Params: simple(), Purses: []uint64{0}, Marks: votes()}, true)
}

// P24.2: parameters that aren't right, also of a state without members.
func TestFitsParams(t *testing.T) {
	for _, p := range wrong(t) {
		fits(t, changed(func(s *api.State) { s.Params = p }), false)
		fits(t, but(bare(1), func(s *api.State) { s.Params = p }), false)
	}
}

// P24.2: a coin more or less than what is accounted for, in each place where money is, or came from, or went.
func TestFitsMoney(t *testing.T) {
	for _, at := range []func(s *api.State) *uint64{
		func(s *api.State) *uint64 { return &s.Genesis },
		func(s *api.State) *uint64 { return &s.Minted },
		func(s *api.State) *uint64 { return &s.Burned },
		func(s *api.State) *uint64 { return &s.Treasury },
		func(s *api.State) *uint64 { return &s.Purses[0] },
		func(s *api.State) *uint64 { return &s.Purses[2] },
		func(s *api.State) *uint64 { return &s.Members[0].Balance },
		func(s *api.State) *uint64 { return &s.Members[2].Balance },
		func(s *api.State) *uint64 { return &s.Members[6].Balance },
		func(s *api.State) *uint64 { return &s.Pool[0].Amount },
		func(s *api.State) *uint64 { return &s.Pool[2].Amount },
		func(s *api.State) *uint64 { return &s.Dues[0].Amount },
		func(s *api.State) *uint64 { return &s.Dues[2].Amount },
	} {
		more, less, moved := full(), full(), full()
		*at(&more)++
		fits(t, more, false)
		fits(t, settle(more), true)
		*at(&less)--
		fits(t, less, false)
		fits(t, settle(less), true)
		// A coin that is elsewhere is accounted for.
		if at(&moved) != &moved.Genesis && at(&moved) != &moved.Minted && at(&moved) != &moved.Burned {
			*at(&moved)++
			moved.Purses[0]--
			fits(t, moved, true)
		}
	}
}

// P24.2: what came is at most Most, and that is at most MaxMoney.
func TestFitsMost(t *testing.T) {
	came := full().Genesis + full().Minted
	for most, want := range map[uint64]bool{
		0: false, came - 1: false, came: true, came + 1: true, api.MaxMoney: true, api.MaxMoney + 1: false, 1 << 63: false, top: false,
	} {
		s := full()
		s.Most = most
		fits(t, s, want)
	}
	// Sums that are wrapped round are never what there is.
	for _, wrap := range []func(s *api.State){
		func(s *api.State) { s.Genesis, s.Minted = s.Genesis-1000, 1060 },
		func(s *api.State) { s.Genesis, s.Minted = top, s.Genesis+s.Minted+1 },
		func(s *api.State) { s.Genesis, s.Minted, s.Burned = top-100, 0, top },
		func(s *api.State) { s.Burned += 1 << 63; s.Treasury += 1 << 63 },
		func(s *api.State) { s.Purses[0] += 1 << 63; s.Purses[1] += 1 << 63 },
		func(s *api.State) { s.Treasury = top; s.Purses[0] += 51 },
		func(s *api.State) { s.Burned = s.Genesis + s.Minted + 1; s.Treasury = top },
	} {
		s := full()
		wrap(&s)
		fits(t, s, fitsOf(s))
	}
}

// P24.2: Epoch and Calm are from 0 to MaxEpoch.
func TestFitsTimes(t *testing.T) {
	for _, n := range ints(api.MaxEpoch) {
		want := within(n, 0, api.MaxEpoch)
		fits(t, changed(func(s *api.State) { s.Epoch = n }), want)
		fits(t, changed(func(s *api.State) { s.Calm = n }), want)
	}
	// Only both of them are right together.
	fits(t, changed(func(s *api.State) { s.Epoch, s.Calm = api.MaxEpoch, api.MaxEpoch }), true)
	fits(t, changed(func(s *api.State) { s.Epoch, s.Calm = -1, api.MaxEpoch+1 }), false)
}

// P24.2: there are from 1 to MaxAccounts purses.
func TestFitsPurses(t *testing.T) {
	for n, want := range map[int]bool{0: false, 1: true, 2: true, api.MaxAccounts - 1: true, api.MaxAccounts: true, api.MaxAccounts + 1: false, 300: false} {
		fits(t, bare(n), want)
	}
	for _, purses := range [][]uint64{nil, {}} {
		s := bare(1)
		s.Purses, s.Genesis = purses, 0
		fits(t, s, false)
	}
}

// P24.2: each purse has at most MaxMoney, which is all that there may be; where another sum wraps round it is seen too.
func TestFitsPurse(t *testing.T) {
	for _, i := range []int{0, 1, 2} {
		for amount, want := range map[uint64]bool{0: true, 1: true, api.MaxMoney - 1: true, api.MaxMoney: true, api.MaxMoney + 1: false, 1 << 63: false, top: false} {
			s := bare(3)
			s.Purses = make([]uint64, 3)
			s.Purses[i], s.Genesis, s.Most = amount, amount, api.MaxMoney
			fits(t, s, want)
			s.Most = amount
			fits(t, s, want)
		}
	}
	s := bare(2)
	s.Purses, s.Genesis = []uint64{1 << 63, 1 << 63}, 0
	fits(t, s, false)
}

// P24.2: there are at most MaxMembers members, of every status.
func TestFitsMembers(t *testing.T) {
	for n, want := range map[int]bool{0: true, 1: true, api.MaxMembers - 1: true, api.MaxMembers: true, api.MaxMembers + 1: false, 400: false} {
		for _, m := range []api.Member{active(25), leaving(40), pending(3), member(api.StatusOut, 0, 0), member(api.StatusLeft, 0, 0)} {
			fits(t, calls(several(n, m)), want)
		}
	}
}

// P24.2: each member fits: of each status what one may have, and what not, with all else right.
func TestFitsMember(t *testing.T) {
	for _, status := range []int{api.StatusActive, api.StatusLeaving} {
		for m, want := range map[api.Member]bool{
			member(status, 11, 10): true, member(status, 40, 30): true, member(status, 25, 30): true, member(status, 24, 30): false,
			member(status, 10, 10): false, member(status, 0, 0): false, member(status, 41, 30): false, member(status, 20, 0): false,
			member(status, 30, 20): true, member(status, 31, 20): false, member(status, 25, 25): false, member(status, 40, 40): false,
			stood(member(status, 25, 20), 100, 4): true, stood(member(status, 25, 20), 101, 4): false,
			stood(member(status, 25, 20), 0, 5): false, stood(member(status, 25, 20), 0, -1): false, stood(member(status, 25, 20), top, 0): false,
		} {
			holdsMember(t, m, want)
		}
	}
	for m, want := range map[api.Member]bool{
		pending(1): true, pending(10): true, pending(40): true, pending(0): false, pending(41): false, pending(1 << 20): false,
		member(api.StatusPending, 25, 20): false, member(api.StatusPending, 25, 1): false,
		stood(pending(9), 100, 4): true, stood(pending(9), 101, 0): false, stood(pending(9), 0, 5): false, stood(pending(9), 0, -1): false,
	} {
		holdsMember(t, m, want)
	}
	for _, status := range []int{api.StatusOut, api.StatusLeft} {
		for m, want := range map[api.Member]bool{
			member(status, 0, 0): true, member(status, 1, 0): false, member(status, 0, 10): false, member(status, 20, 20): false,
			stood(member(status, 0, 0), 100, 4): true, stood(member(status, 0, 0), 101, 0): false, stood(member(status, 0, 0), 0, -1): false,
		} {
			holdsMember(t, m, want)
		}
	}
}

// holdsMember asks whether a state fits that has this member among others.
func holdsMember(t *testing.T, m api.Member, want bool) {
	t.Helper()
	for i := range 3 {
		members := []api.Member{active(20), leaving(20), pending(20)}
		members[i] = m
		fits(t, calls(members), want)
	}
	fits(t, calls([]api.Member{m}), want)
}

// P24.2: numbers that are no status, with and without money, also where the place waits.
func TestFitsStatus(t *testing.T) {
	for _, status := range []int{0, -1, 6, 7, 1<<32 + api.StatusActive, 1<<32 + api.StatusOut, math.MinInt, math.MaxInt} {
		for _, m := range []api.Member{member(status, 0, 0), member(status, 20, 20), member(status, 20, 0)} {
			holdsMember(t, m, false)
			s := calls([]api.Member{m})
			s.Entry = []int{0}
			fits(t, s, false)
			s.Entry, s.Exit = nil, []int{0}
			fits(t, s, false)
		}
	}
}

// P24.2: each member's owner is a purse's place.
func TestFitsOwner(t *testing.T) {
	for _, accounts := range []int{1, 3, api.MaxAccounts} {
		for _, owner := range append(ints(accounts), api.MaxAccounts, api.MaxAccounts-1) {
			for _, m := range []api.Member{active(25), leaving(40), pending(3), member(api.StatusOut, 0, 0), member(api.StatusLeft, 0, 0)} {
				s := calls([]api.Member{active(20), of(owner, m)})
				s.Purses = slices.Repeat([]uint64{1}, accounts)
				fits(t, settle(s), within(owner, 0, accounts-1))
			}
		}
	}
}

// P24.2: Entry has just the places of those that are pending, Exit just those of who is leaving, each once, in any order.
func TestFitsQueues(t *testing.T) {
	for _, status := range []int{api.StatusPending, api.StatusLeaving} {
		one, other := pending(20), leaving(20)
		if status == api.StatusLeaving {
			one, other = other, one
		}
		members := []api.Member{one, active(20), one, other, one, member(api.StatusOut, 0, 0), member(api.StatusLeft, 0, 0)}
		for _, c := range []struct {
			queue []int
			want  bool
		}{
			{[]int{0, 2, 4}, true}, {[]int{4, 2, 0}, true}, {[]int{2, 0, 4}, true}, {[]int{2, 4, 0}, true},
			{nil, false}, {[]int{}, false}, {[]int{0, 2}, false}, {[]int{2, 4}, false}, {[]int{4}, false},
			{[]int{0, 2, 2}, false}, {[]int{0, 2, 4, 4}, false}, {[]int{0, 0, 2, 4}, false}, {[]int{0, 0, 0}, false},
			{[]int{0, 2, 4, 1}, false}, {[]int{0, 2, 1}, false}, {[]int{0, 2, 4, 3}, false}, {[]int{0, 2, 3}, false},
			{[]int{0, 2, 4, 5}, false}, {[]int{0, 2, 4, 6}, false}, {[]int{5, 2, 4}, false}, {[]int{0, 2, 6}, false},
			{[]int{0, 2, 4, 7}, false}, {[]int{0, 2, 7}, false}, {[]int{0, 2, 4, -1}, false}, {[]int{-1, 2, 4}, false},
			{[]int{0, 2, 4, 127}, false}, {[]int{0, 2, 4, 128}, false}, {[]int{0, 2, 4, 1 << 32}, false}, {[]int{0, 2, 1<<32 + 4}, false},
			{[]int{0, 2, 4, math.MaxInt}, false}, {[]int{0, 2, math.MaxInt}, false}, {[]int{0, 2, 4, math.MinInt}, false}, {[]int{math.MinInt, 2, 4}, false},
			{[]int{0, 2, 4, 5, 6, 7}, false}, {all(300), false}, {slices.Repeat([]int{0, 2, 4}, 200), false},
		} {
			s := calls(members)
			if status == api.StatusPending {
				s.Entry = c.queue
			} else {
				s.Exit = c.queue
			}
			fits(t, s, c.want)
		}
		// What waits in the other one's stead.
		s := calls(members)
		s.Entry, s.Exit = s.Exit, s.Entry
		fits(t, s, false)
	}
}

// P24.2: nobody waits, if nobody is of that status; all may.
func TestFitsQueuesOfAll(t *testing.T) {
	for _, m := range []api.Member{active(20), member(api.StatusOut, 0, 0), member(api.StatusLeft, 0, 0)} {
		for _, i := range []int{0, 1, 2, -1} {
			s := calls([]api.Member{m, m})
			s.Entry = []int{i}
			fits(t, s, false)
			s.Entry, s.Exit = nil, []int{i}
			fits(t, s, false)
		}
	}
	for _, m := range []api.Member{pending(20), leaving(20)} {
		s := calls(several(api.MaxMembers, m))
		fits(t, s, true)
		slices.Reverse(s.Entry)
		slices.Reverse(s.Exit)
		fits(t, s, true)
	}
	fits(t, but(bare(1), func(s *api.State) { s.Entry = []int{0} }), false)
	fits(t, but(bare(1), func(s *api.State) { s.Exit = []int{0} }), false)
}

// P24.2: there are at most MaxLine deposits.
func TestFitsPool(t *testing.T) {
	for n, want := range map[int]bool{0: true, 1: true, api.MaxLine - 1: true, api.MaxLine: true, api.MaxLine + 1: false, 1000: false} {
		for _, d := range []api.Deposit{{Account: 2, Member: 1, Amount: 3}, {Account: 1, Amount: 3, New: true}} {
			fits(t, changed(func(s *api.State) { s.Pool = slices.Repeat([]api.Deposit{d}, n) }), want)
		}
	}
}

// P24.2: each deposit's account is a purse's place, wherever it stands.
func TestFitsPoolAccount(t *testing.T) {
	for _, account := range append(ints(3), 2, 4, api.MaxAccounts-1, api.MaxAccounts) {
		for i := range 3 {
			fits(t, changed(func(s *api.State) { s.Pool[i].Account = account }), within(account, 0, 2))
		}
	}
	s := but(bare(api.MaxAccounts), func(s *api.State) { s.Pool = []api.Deposit{{Account: api.MaxAccounts - 1, Amount: 1, New: true}} })
	fits(t, s, true)
	s.Pool[0].Account++
	fits(t, s, false)
}

// P24.2: each deposit's member is one that there is, of whatever status; of a new one's it is 0.
func TestFitsPoolMember(t *testing.T) {
	for _, member := range append(ints(8), 2, 3, 4, 5, 6, api.MaxMembers-1, api.MaxMembers) {
		for _, i := range []int{0, 2} {
			fits(t, changed(func(s *api.State) { s.Pool[i].Member = member }), within(member, 0, 7))
			fits(t, changed(func(s *api.State) { s.Pool[i].Member, s.Pool[i].New = member, true }), member == 0)
		}
		fits(t, changed(func(s *api.State) { s.Pool[1].Member = member }), member == 0)
	}
	s := but(bare(2), func(s *api.State) { s.Pool = []api.Deposit{{Amount: 1, New: true}} })
	fits(t, s, true)
	s.Pool[0].New = false
	fits(t, s, false)
	last := calls(several(api.MaxMembers, active(20)))
	last.Pool = []api.Deposit{{Amount: 1, Member: api.MaxMembers - 1}}
	fits(t, settle(last), true)
	last.Pool[0].Member++
	fits(t, last, false)
}

// P24.2: each deposit is of 1 to MaxMoney.
func TestFitsPoolAmount(t *testing.T) {
	for amount, want := range map[uint64]bool{0: false, 1: true, 2: true, 1 << 40: true, api.MaxMoney: true, api.MaxMoney + 1: false, top: false} {
		for _, d := range []api.Deposit{{Amount: amount}, {Amount: amount, New: true}} {
			s := calls([]api.Member{member(api.StatusOut, 0, 0)})
			s.Pool, s.Most = []api.Deposit{d}, api.MaxMoney
			s.Purses, s.Treasury, s.Minted, s.Burned, s.Genesis = []uint64{0}, 0, 0, 0, amount
			fits(t, s, want)
		}
		// Also where another one is right.
		s := changed(func(s *api.State) { s.Pool[1].Amount, s.Most = amount, api.MaxMoney })
		fits(t, s, fitsOf(s))
	}
}

// P24.2: each due's account is a purse's place, wherever it stands.
func TestFitsDuesAccount(t *testing.T) {
	for _, account := range append(ints(3), 2, 4, api.MaxAccounts-1, api.MaxAccounts) {
		// Of accounts that all three have, the second and the first one would be the same due.
		want := within(account, 0, 2)
		fits(t, changed(func(s *api.State) { s.Dues[0].Account = account }), want && account != 0)
		fits(t, changed(func(s *api.State) { s.Dues[1].Account = account }), want && account != 1)
		fits(t, changed(func(s *api.State) { s.Dues[2].Account = account }), want)
	}
	s := but(bare(api.MaxAccounts), func(s *api.State) { s.Dues = []api.Due{{Account: api.MaxAccounts - 1, Amount: 1}} })
	fits(t, s, true)
	s.Dues[0].Account++
	fits(t, s, false)
}

// P24.2: each due's At is from 0 to 2^31 - 1, and they never fall.
func TestFitsDuesAt(t *testing.T) {
	for _, at := range append(ints(mostTime), 12, 1<<30, mostTime+2) {
		fits(t, but(bare(2), func(s *api.State) { s.Dues = []api.Due{{At: at, Amount: 1}} }), within(at, 0, mostTime))
		fits(t, changed(func(s *api.State) { s.Dues[2].At = at }), within(at, 13, mostTime))
		fits(t, changed(func(s *api.State) { s.Dues[0].At = at }), within(at, 0, 12))
	}
	fits(t, changed(func(s *api.State) { s.Dues[2].At = 13 }), true)
	fits(t, changed(func(s *api.State) { s.Dues[2].At, s.Dues[2].Account = 12, 2 }), true)
	fits(t, changed(func(s *api.State) { s.Dues[2].At, s.Dues[2].Account = 11, 2 }), false)
	fits(t, changed(func(s *api.State) { s.Dues[1].At = 11 }), false)
	fits(t, changed(func(s *api.State) { s.Dues[1].At = 15 }), false)
}

// P24.2: each due is of 1 to MaxMoney.
func TestFitsDuesAmount(t *testing.T) {
	for amount, want := range map[uint64]bool{0: false, 1: true, 2: true, 1 << 40: true, api.MaxMoney: true, api.MaxMoney + 1: false, top: false} {
		s := api.State{Params: simple(), Most: api.MaxMoney, Purses: []uint64{0}, Marks: votes(), Genesis: amount}
		s.Dues = []api.Due{{At: 3, Amount: amount}}
		fits(t, s, want)
		for i := range 3 {
			s := changed(func(s *api.State) { s.Dues[i].Amount, s.Most = amount, api.MaxMoney })
			fits(t, s, fitsOf(s))
			if amount == 0 && fitsOf(s) {
				t.Fatalf("%+v", s)
			}
		}
	}
}

// owed are dues of accounts, each with its tick.
func owed(list ...int) []api.Due {
	var dues []api.Due
	for pair := range slices.Chunk(list, 2) {
		dues = append(dues, api.Due{Account: pair[0], At: pair[1], Amount: uint64(1 + len(dues))})
	}
	return dues
}

// P24.2: no two dues have the same account and At, next to each other and apart.
func TestFitsDuesTwice(t *testing.T) {
	for _, c := range []struct {
		dues []int // accounts, each with its tick
		want bool
	}{
		{[]int{0, 5, 1, 5, 2, 5}, true},
		{[]int{2, 5, 1, 5, 0, 5}, true},
		{[]int{0, 5, 0, 5}, false},
		{[]int{0, 5, 1, 5, 0, 5}, false},
		{[]int{0, 5, 1, 5, 2, 5, 1, 5}, false},
		{[]int{0, 5, 0, 6, 0, 7}, true},
		{[]int{0, 5, 1, 5, 0, 6, 1, 6}, true},
		{[]int{0, 5, 1, 6, 0, 5}, false},
		{[]int{0, 5, 1, 6, 0, 6, 1, 6}, false},
		{[]int{0, 0, 0, 0}, false},
		{[]int{0, 0, 1, 0}, true},
		{[]int{0, 0, 1, 0, 0, 1}, true},
		{[]int{0, mostTime, 1, mostTime}, true},
		{[]int{0, mostTime, 0, mostTime}, false},
		{[]int{0, mostTime, 1, mostTime, 0, mostTime}, false},
	} {
		fits(t, but(bare(3), func(s *api.State) { s.Dues = owed(c.dues...) }), c.want)
	}
}

// P24.2: there may be many dues, of each account one for each tick.
func TestFitsManyDues(t *testing.T) {
	s := bare(api.MaxAccounts)
	for at := range 60 {
		for i := range api.MaxAccounts {
			s.Dues = append(s.Dues, api.Due{Account: (i + 7*at) % api.MaxAccounts, At: at, Amount: 1})
		}
	}
	fits(t, settle(s), true)
	for _, i := range []int{1, 1000, len(s.Dues) - 1} {
		twice := plain(s)
		twice.Dues[i].Account = s.Dues[i-1].Account
		fits(t, settle(twice), false)
		twice.Dues[i].Account = s.Dues[i/64*64].Account
		fits(t, settle(twice), i%64 == 0)
	}
}

// P24.2: there are at most MaxMotions motions.
func TestFitsMotions(t *testing.T) {
	for n, want := range map[int]bool{0: true, 1: true, api.MaxMotions - 1: true, api.MaxMotions: true, api.MaxMotions + 1: false, 200: false} {
		for _, what := range whats() {
			fits(t, changed(func(s *api.State) { s.Motions = slices.Repeat([]api.Motion{about(what)}, n) }), want)
		}
	}
}

// P24.2: each motion fits, wherever it stands.
func TestFitsMotion(t *testing.T) {
	for _, c := range []struct {
		change func(m *api.Motion)
		want   bool
	}{
		{func(m *api.Motion) { m.State = 0 }, false},
		{func(m *api.Motion) { m.State = 5 }, false},
		{func(m *api.Motion) { m.State = -1 }, false},
		{func(m *api.Motion) { m.State = api.MotionPassed }, true},
		{func(m *api.Motion) { m.What, m.Params = api.MoveOn, api.Params{} }, true},
		{func(m *api.Motion) { m.What, m.Params = api.MoveParams, simple() }, true},
		{func(m *api.Motion) { m.What, m.Params = api.MoveParams, api.Params{} }, false},
		{func(m *api.Motion) { m.What, m.Params = api.MoveSpend, simple() }, false},
		{func(m *api.Motion) { m.What, m.Params = 0, api.Params{} }, false},
		{func(m *api.Motion) { m.What, m.Params = 5, api.Params{} }, false},
		{func(m *api.Motion) { m.Ends = -1 }, false},
		{func(m *api.Motion) { m.Ends = mostTime }, true},
		{func(m *api.Motion) { m.Ends = mostTime + 1 }, false},
		{func(m *api.Motion) { m.Due = -1 }, false},
		{func(m *api.Motion) { m.Due = mostTime }, true},
		{func(m *api.Motion) { m.Due = mostTime + 1 }, false},
		{func(m *api.Motion) { m.Amount = api.MaxMoney }, true},
		{func(m *api.Motion) { m.Amount = api.MaxMoney + 1 }, false},
		{func(m *api.Motion) { m.Yes = nil }, false},
		{func(m *api.Motion) { m.Yes = m.Yes[:15] }, false},
		{func(m *api.Motion) { m.No = append(votes(), 0) }, false},
		{func(m *api.Motion) { m.No = slices.Repeat([]byte{255}, 16) }, true},
	} {
		for i := range 4 {
			fits(t, changed(func(s *api.State) { c.change(&s.Motions[i]) }), c.want)
		}
	}
	for _, p := range wrong(t) {
		fits(t, changed(func(s *api.State) { s.Motions[0].Params = p }), false)
	}
}

// P24.2: each motion's account and To are purses' places, whatever it is about.
func TestFitsMotionAccounts(t *testing.T) {
	for _, place := range append(ints(3), 2, 4, api.MaxAccounts-1, api.MaxAccounts) {
		for i := range 4 {
			fits(t, changed(func(s *api.State) { s.Motions[i].Account = place }), within(place, 0, 2))
			fits(t, changed(func(s *api.State) { s.Motions[i].To = place }), within(place, 0, 2))
		}
	}
	for _, place := range ints(api.MaxAccounts) {
		m := about(api.MoveOn)
		m.Account, m.To = place, place
		fits(t, but(bare(api.MaxAccounts), func(s *api.State) { s.Motions = []api.Motion{m} }), within(place, 0, api.MaxAccounts-1))
	}
}

// P24.2: Marks are a field of just MaxMembers bits.
func TestFitsMarks(t *testing.T) {
	for _, marks := range [][]byte{nil, {}, {0}, make([]byte, 1), make([]byte, 15), make([]byte, 17), make([]byte, 32), make([]byte, 99)} {
		fits(t, changed(func(s *api.State) { s.Marks = marks }), false)
		fits(t, but(bare(1), func(s *api.State) { s.Marks = marks }), false)
	}
	fits(t, changed(func(s *api.State) { s.Marks = make([]byte, 16) }), true)
}

// P24.2: no bit of Marks is 1 that isn't a member's place, of whatever status that is.
func TestFitsMarksPlaces(t *testing.T) {
	for i := range api.MaxMembers {
		fits(t, changed(func(s *api.State) { s.Marks = votes(i) }), i < 8)
		fits(t, changed(func(s *api.State) { s.Marks = votes(0, i) }), i < 8)
	}
	for _, n := range []int{0, 1, 7, 8, 9, 63, 64, api.MaxMembers - 1, api.MaxMembers} {
		s := calls(several(n, active(20)))
		for _, i := range []int{n - 1, n, n + 1, api.MaxMembers - 1} {
			if within(i, 0, api.MaxMembers-1) {
				s.Marks = votes(i)
				fits(t, s, i < n)
			}
		}
		s.Marks = votes(all(n)...)
		fits(t, s, true)
	}
}

// P24.2: a ring is at most MaxRing marks, whose bits are any.
func TestFitsRing(t *testing.T) {
	for n, want := range map[int]bool{0: true, 1: true, api.MaxRing - 1: true, api.MaxRing: true, api.MaxRing + 1: false, 50: false} {
		for _, b := range [][]byte{votes(), votes(0, 127), slices.Repeat([]byte{255}, 16)} {
			fits(t, changed(func(s *api.State) { s.Ring = slices.Repeat([][]byte{b}, n) }), want)
		}
	}
	for i := range 3 {
		for _, b := range [][]byte{nil, {}, {0}, make([]byte, 15), make([]byte, 17)} {
			fits(t, changed(func(s *api.State) { s.Ring[i] = b }), false)
		}
	}
}
