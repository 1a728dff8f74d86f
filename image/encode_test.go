package image_test

import (
	"bytes"
	"math"
	"slices"
	"testing"

	"bullion/api"
)

// written is the image of a full state, written out by the chapter's order.
func written() []byte {
	return slices.Concat(
		[]byte{10, 30, 10, 40, 10, 5, 4, 100, 8, 50, 2, 100, 128, 128, 64, 1}, // Inc, MaxEff, Floor, Cap, Up, Down, Bias, Quot, BiasEm, QuotEm, Recover, ScoreCap, Rate, Bond
		[]byte{2, 4, 100, 100, 136, 39, 2, 2, 2, 1, 184, 23},                  // Delay, Streak, Boost, Absent, Burn, Churn, Wait, Poll, Enact, Quorum
		[]byte{128, 128, 128, 128, 4, 190, 6, 60, 25, 50},                     // Most, Genesis, Minted, Burned, Treasury
		[]byte{11, 3, 1},                          // Epoch, Calm, Emergency
		[]byte{3, 172, 2, 0, 200, 1},              // Purses
		[]byte{8, 25, 20, 8, 1, 0, 2},             // Members: how many, and of the first one Balance, Eff, Score, Streak, Owner, Status
		[]byte{40, 30, 7, 4, 1, 3},                // the place 1
		[]byte{15, 0, 0, 0, 2, 1},                 // 2
		[]byte{0, 0, 50, 0, 1, 4},                 // 3
		[]byte{0, 0, 100, 2, 2, 5},                // 4
		[]byte{33, 30, 0, 0, 0, 2},                // 5
		[]byte{12, 10, 0, 0, 2, 3},                // 6
		[]byte{11, 0, 0, 0, 0, 1},                 // 7
		[]byte{2, 7, 2, 2, 6, 1},                  // Entry, Exit
		[]byte{3, 1, 3, 70, 0},                    // Pool: how many, and of the first one Account, Member, Amount, New
		[]byte{2, 0, 30, 1, 0, 5, 4, 0},           // the others
		[]byte{3, 1, 12, 40, 0, 12, 5, 0, 14, 30}, // Dues: how many, and of each Account, At, Amount
		[]byte{4, 2, 1},                           // Motions: how many, and of the first one Account, What
		[]byte{10, 30, 10, 40, 10, 5, 4, 100, 8, 50, 2, 100, 128, 128, 64, 1}, // its Params
		[]byte{7, 4, 100, 100, 136, 39, 2, 2, 2, 1, 184, 23},
		[]byte{0, 0, 12, 0, 1}, // To, Amount, Ends, Due, State
		[]byte{16, 1, 0, 0, 0, 0, 0, 0, 0, 0, 0, 0, 0, 0, 0, 0, 0},  // Yes
		[]byte{16, 32, 0, 0, 0, 0, 0, 0, 0, 0, 0, 0, 0, 0, 0, 0, 0}, // No
		[]byte{0, 2, 1, 30, 12, 13, 2},                              // the one to spend: Account, What, To, Amount, Ends, Due, State
		[]byte{16, 0, 0, 0, 0, 0, 0, 0, 0, 0, 0, 0, 0, 0, 0, 0, 0},
		[]byte{16, 0, 0, 0, 0, 0, 0, 0, 0, 0, 0, 0, 0, 0, 0, 0, 0},
		[]byte{0, 3, 0, 0, 12, 13, 3}, // the one for the emergency
		[]byte{16, 34, 0, 0, 0, 0, 0, 0, 0, 0, 0, 0, 0, 0, 0, 0, 0},
		[]byte{16, 0, 0, 0, 0, 0, 0, 0, 0, 0, 0, 0, 0, 0, 0, 0, 0},
		[]byte{1, 4, 2, 9, 12, 13, 4}, // the one against it
		[]byte{16, 0, 0, 0, 0, 0, 0, 0, 0, 0, 0, 0, 0, 0, 0, 0, 0},
		[]byte{16, 0, 0, 0, 0, 0, 0, 0, 0, 0, 0, 0, 0, 0, 0, 0, 0},
		[]byte{16, 33, 0, 0, 0, 0, 0, 0, 0, 0, 0, 0, 0, 0, 0, 0, 0}, // Marks
		[]byte{3}, // Ring
		[]byte{16, 3, 0, 0, 0, 0, 0, 0, 0, 0, 0, 0, 0, 0, 0, 0, 0},
		[]byte{16, 0, 0, 0, 0, 0, 0, 0, 0, 0, 0, 0, 0, 0, 0, 0, 0},
		[]byte{16, 1, 0, 0, 0, 0, 0, 0, 0, 0, 0, 0, 0, 0, 0, 0, 128},
	)
}

// P26.1, P26.3: every byte of a state with something in every field.
func TestBytes(t *testing.T) {
	if b := encodes(t, full()); !bytes.Equal(b, written()) {
		t.Fatal(brief(b), "want", brief(written()))
	}
	if s, e := decoded(t, written()); e != api.OK || !alike(s, full()) {
		t.Fatal(e, brief(s))
	}
}

// The chapter's example: of a state without members the last bytes are those of the empty lists, of Marks and of a ring of none.
func TestExample(t *testing.T) {
	want := slices.Concat(
		[]byte{10, 30, 10, 40, 10, 5, 4, 100, 8, 50, 2, 100, 128, 128, 64, 1, 2, 4, 100, 100, 136, 39, 2, 2, 2, 1, 184, 23}, // Params
		[]byte{128, 128, 128, 128, 4, 5, 0, 0, 0, 0, 0, 0},                                                                  // Most to Emergency
		[]byte{1, 5},             // Purses
		[]byte{0, 0, 0, 0, 0, 0}, // Members, Entry, Exit, Pool, Dues, Motions
		[]byte{16}, make([]byte, 16), []byte{0},
	)
	if b := encodes(t, bare(1)); !bytes.Equal(b, want) {
		t.Fatal(brief(b), "want", brief(want))
	}
}

// P26.1, P26.3: states of every sort, their lists nil or empty.
func TestSorts(t *testing.T) {
	for _, s := range sorts() {
		b := encodes(t, s)
		if again := encodes(t, plain(s)); !bytes.Equal(again, b) {
			t.Fatal(brief(again), "want", brief(b))
		}
	}
}

// P26.1, P26.3: each list that may be empty is, alone, with all else there.
func TestEmpty(t *testing.T) {
	for _, empty := range []func(s *api.State){
		func(s *api.State) { s.Members, s.Entry, s.Exit, s.Marks, s.Pool = nil, nil, nil, votes(), s.Pool[1:2] },
		func(s *api.State) {
			s.Members, s.Entry = s.Members[:2], nil
			s.Exit, s.Marks, s.Pool = []int{1}, votes(0), nil
		},
		func(s *api.State) {
			s.Members, s.Exit = s.Members[2:5], nil
			s.Entry, s.Marks, s.Pool = []int{0}, votes(1), nil
		},
		func(s *api.State) { s.Pool = nil },
		func(s *api.State) { s.Dues = nil },
		func(s *api.State) { s.Motions = nil },
		func(s *api.State) { s.Ring = nil },
		func(s *api.State) { s.Emergency, s.Marks = false, votes() },
		func(s *api.State) { s.Pool, s.Dues, s.Motions, s.Ring = nil, nil, nil, nil },
	} {
		encodes(t, changed(empty))
	}
}

// P26.1, P26.3: each list alone has as many as there may be, and all of them do.
func TestMany(t *testing.T) {
	all := great()
	for _, many := range []func(s *api.State){
		func(s *api.State) { s.Purses = slices.Repeat([]uint64{1000}, api.MaxAccounts) },
		func(s *api.State) { *s = all; s.Pool, s.Dues, s.Motions, s.Ring = nil, nil, nil, nil },
		func(s *api.State) { s.Pool = slices.Repeat(s.Pool[:2], api.MaxLine/2) },
		func(s *api.State) { s.Dues, s.Purses = owed(51, 3), all.Purses; s.Most = api.MaxMoney },
		func(s *api.State) { s.Motions = slices.Repeat(s.Motions, api.MaxMotions/4) },
		func(s *api.State) { s.Ring = slices.Repeat(s.Ring[:1], api.MaxRing) },
	} {
		encodes(t, changed(many))
	}
	for _, status := range []int{api.StatusPending, api.StatusLeaving} {
		s := bare(1)
		for range api.MaxMembers {
			m := member(status, 25, 20)
			if status == api.StatusPending {
				m.Eff = 0
			}
			s.Members = append(s.Members, m)
		}
		encodes(t, settle(queued(s)))
	}
	encodes(t, all)
}

// P26.1, P26.3: motions of every What and every State, with no vote, with some, and with all of them on either side.
func TestMotions(t *testing.T) {
	fields := [][]byte{votes(), votes(0), votes(3, 127), slices.Repeat([]byte{255}, 16)}
	for _, what := range whats() {
		for _, state := range motions() {
			var list []api.Motion
			for _, yes := range fields {
				for _, no := range fields {
					m := about(what, state)
					m.Account, m.Yes, m.No = 2, yes, no
					list = append(list, m)
				}
			}
			b := encodes(t, changed(func(s *api.State) { s.Motions = list }))
			for _, p := range []api.Params{simple(), vast()} {
				// Only of MoveParams there are parameters; any others don't fit.
				other := changed(func(s *api.State) { s.Motions = slices.Clone(list); s.Motions[5].Params = p })
				if what != api.MoveParams {
					unencoded(t, other, api.ErrState)
				} else if again := encodes(t, other); bytes.Equal(again, b) {
					t.Fatal("parameters are not in the image")
				}
			}
		}
	}
}

// P26.1, P26.3: To and Amount are there whatever a motion is about, and their greatest numbers.
func TestMotionNumbers(t *testing.T) {
	for _, what := range whats() {
		m := about(what, api.MotionPassed)
		m.Account, m.To, m.Amount, m.Ends, m.Due = 63, 62, api.MaxMoney, mostTime, mostTime-1
		s := bare(api.MaxAccounts)
		s.Motions = []api.Motion{m}
		encodes(t, s)
	}
}

// P26.1, P26.3: a ring of each length.
func TestRing(t *testing.T) {
	for n := range api.MaxRing + 1 {
		s := full()
		s.Ring = nil
		for i := range n {
			s.Ring = append(s.Ring, votes(i, 127-i))
		}
		b := encodes(t, s)
		if at := len(b) - 17*n - 1; int(b[at]) != n {
			t.Fatalf("%d, want %d", b[at], n)
		}
	}
}

// P26.1, P26.3: each number alone at its greatest.
func TestNumbers(t *testing.T) {
	for _, change := range []func(s *api.State){
		func(s *api.State) { s.Most = api.MaxMoney },
		func(s *api.State) { s.Minted = 1; s.Purses[1] = 1 << 61; s.Most = api.MaxMoney },
		func(s *api.State) { s.Minted, s.Burned, s.Most = 1<<61, 1<<61, api.MaxMoney },
		func(s *api.State) { s.Minted, s.Burned = 0, 0 },
		func(s *api.State) { s.Treasury, s.Most = 1<<61, api.MaxMoney },
		func(s *api.State) { s.Treasury = 0 },
		func(s *api.State) { s.Epoch, s.Calm = api.MaxEpoch, 0 },
		func(s *api.State) { s.Epoch, s.Calm = 0, api.MaxEpoch },
		func(s *api.State) { s.Emergency = false },
		func(s *api.State) { s.Pool[0].Amount, s.Most = 1<<61, api.MaxMoney },
		func(s *api.State) { s.Dues[1].Amount, s.Most = 1<<61, api.MaxMoney },
		func(s *api.State) { s.Dues[2].At = mostTime },
	} {
		encodes(t, changed(change))
	}
}

// reasons are states each of which doesn't fit for another reason, and for no other one.
func reasons() []api.State {
	var list []api.State
	for _, change := range []func(s *api.State){
		func(s *api.State) {
			s.Purses, s.Members, s.Entry, s.Exit, s.Pool = nil, nil, nil, nil, nil
			s.Dues, s.Motions, s.Marks = nil, nil, votes()
		},
		func(s *api.State) { s.Purses = slices.Repeat([]uint64{1}, api.MaxAccounts+1) },
		func(s *api.State) { s.Most = 1 },
		func(s *api.State) { s.Most = api.MaxMoney + 1 },
		func(s *api.State) { s.Epoch = api.MaxEpoch + 1 },
		func(s *api.State) { s.Calm = api.MaxEpoch + 1 },
		func(s *api.State) { s.Epoch = mostTime },
		func(s *api.State) {
			s.Members = append(s.Members, slices.Repeat([]api.Member{member(api.StatusOut, 0, 0)}, 121)...)
		},
		func(s *api.State) { s.Members[0].Balance = 10 },
		func(s *api.State) { s.Members[0].Balance = 41 },
		func(s *api.State) { s.Members[0].Eff = 21 },
		func(s *api.State) { s.Members[1].Score = 101 },
		func(s *api.State) { s.Members[1].Streak = 5 },
		func(s *api.State) { s.Members[2].Eff = 10 },
		func(s *api.State) { s.Members[3].Balance = 1 },
		func(s *api.State) { s.Members[4].Owner = 3 },
		func(s *api.State) { s.Members[4].Status = 0 },
		func(s *api.State) { s.Members[4].Status = 6 },
		func(s *api.State) { s.Entry = []int{7} },
		func(s *api.State) { s.Entry = []int{7, 2, 7} },
		func(s *api.State) { s.Entry = []int{7, 2, 0} },
		func(s *api.State) { s.Entry = []int{7, 2, 8} },
		func(s *api.State) { s.Exit = nil },
		func(s *api.State) { s.Exit = []int{6, 1, 5} },
		func(s *api.State) { s.Entry, s.Exit = s.Exit, s.Entry },
		func(s *api.State) { s.Pool = slices.Repeat(s.Pool[:1], api.MaxLine+1) },
		func(s *api.State) { s.Pool[0].Account = 3 },
		func(s *api.State) { s.Pool[0].Member = 8 },
		func(s *api.State) { s.Pool[0].Amount = 0 },
		func(s *api.State) { s.Pool[0].New = true },
		func(s *api.State) { s.Dues[0].Account = 3 },
		func(s *api.State) { s.Dues[0].Account = 0 },
		func(s *api.State) { s.Dues[0].At = 13 },
		func(s *api.State) { s.Dues[0].Amount = 0 },
		func(s *api.State) { s.Motions = slices.Repeat(s.Motions[3:], api.MaxMotions+1) },
		func(s *api.State) { s.Motions[1].Account = 3 },
		func(s *api.State) { s.Motions[1].To = 3 },
		func(s *api.State) { s.Motions[1].What = 0 },
		func(s *api.State) { s.Motions[1].What = 5 },
		func(s *api.State) { s.Motions[1].Amount = api.MaxMoney + 1 },
		func(s *api.State) { s.Motions[1].State = 0 },
		func(s *api.State) { s.Motions[1].State = 5 },
		func(s *api.State) { s.Motions[1].Yes = s.Motions[1].Yes[:15] },
		func(s *api.State) { s.Motions[1].Yes = nil },
		func(s *api.State) { s.Motions[1].No = make([]byte, 17) },
		func(s *api.State) { s.Motions[1].No = make([]byte, 32) },
		func(s *api.State) { s.Marks = nil },
		func(s *api.State) { s.Marks = make([]byte, 17) },
		func(s *api.State) { s.Marks = votes(8) },
		func(s *api.State) { s.Ring = slices.Repeat(s.Ring, 3) },
		func(s *api.State) { s.Ring[1] = nil },
		func(s *api.State) { s.Ring[2] = make([]byte, 15) },
	} {
		list = append(list, changed(change))
	}
	for _, coin := range []func(s *api.State) *uint64{
		func(s *api.State) *uint64 { return &s.Genesis },
		func(s *api.State) *uint64 { return &s.Minted },
		func(s *api.State) *uint64 { return &s.Burned },
		func(s *api.State) *uint64 { return &s.Treasury },
		func(s *api.State) *uint64 { return &s.Purses[1] },
		func(s *api.State) *uint64 { return &s.Members[1].Balance },
		func(s *api.State) *uint64 { return &s.Pool[2].Amount },
		func(s *api.State) *uint64 { return &s.Dues[2].Amount },
	} {
		s := full()
		if coin(&s) != &s.Members[1].Balance {
			*coin(&s)++
		} else {
			*coin(&s)--
		}
		list = append(list, s)
	}
	return list
}

// unreadable are states that don't fit, and have no bytes that could be read.
func unreadable() []api.State {
	list := []api.State{{}}
	for _, p := range wrong() {
		list = append(list, changed(func(s *api.State) { s.Params = p }), changed(func(s *api.State) { s.Motions[0].Params = p }))
	}
	for _, n := range []int{-1, 1 << 31, 1 << 32, math.MinInt, math.MaxInt} {
		for _, at := range []func(s *api.State) *int{
			func(s *api.State) *int { return &s.Epoch },
			func(s *api.State) *int { return &s.Calm },
			func(s *api.State) *int { return &s.Params.Delay },
			func(s *api.State) *int { return &s.Members[0].Streak },
			func(s *api.State) *int { return &s.Members[0].Owner },
			func(s *api.State) *int { return &s.Members[0].Status },
			func(s *api.State) *int { return &s.Entry[1] },
			func(s *api.State) *int { return &s.Exit[1] },
			func(s *api.State) *int { return &s.Pool[0].Account },
			func(s *api.State) *int { return &s.Pool[0].Member },
			func(s *api.State) *int { return &s.Dues[2].Account },
			func(s *api.State) *int { return &s.Dues[2].At },
			func(s *api.State) *int { return &s.Motions[1].Account },
			func(s *api.State) *int { return &s.Motions[1].What },
			func(s *api.State) *int { return &s.Motions[1].To },
			func(s *api.State) *int { return &s.Motions[1].Ends },
			func(s *api.State) *int { return &s.Motions[1].Due },
			func(s *api.State) *int { return &s.Motions[1].State },
		} {
			list = append(list, changed(func(s *api.State) { *at(s) = n }))
		}
	}
	list = append(list, changed(func(s *api.State) { s.Marks = make([]byte, 33) }), changed(func(s *api.State) { s.Ring[0] = make([]byte, 99) }))
	return list
}

// P26.1: of a state that doesn't fit there is no image, for whatever reason.
func TestUnfit(t *testing.T) {
	for _, s := range append(reasons(), unreadable()...) {
		unencoded(t, s, api.ErrState)
	}
}

// P26.1: an image has at most MaxBytes bytes; that a state doesn't fit goes ahead.
func TestTooBig(t *testing.T) {
	for _, size := range []int{api.MaxBytes - 1, api.MaxBytes} {
		if b := encodes(t, measured(t, size)); len(b) != size {
			t.Fatal(len(b))
		}
	}
	for _, size := range []int{api.MaxBytes + 1, api.MaxBytes + 100, 2 * api.MaxBytes} {
		s := measured(t, size)
		unencoded(t, s, api.ErrBig)
		undecoded(t, text(s), api.ErrBig)
		s.Treasury++
		unencoded(t, s, api.ErrState)
	}
	// Where only the last list doesn't fit in any more.
	s := measured(t, api.MaxBytes-8)
	s.Ring = [][]byte{votes(1)}
	unencoded(t, s, api.ErrBig)
}

// P26.1: the greatest state that a genesis comes to has an image, and so would one of which each number were as great as any that fits.
func TestGreatest(t *testing.T) {
	if b := encodes(t, great()); len(b) < 1<<15 {
		t.Fatal(len(b))
	}
	s := great()
	s.Genesis, s.Minted, s.Burned, s.Treasury = api.MaxMoney, api.MaxMoney, api.MaxMoney, api.MaxMoney
	fill(s.Purses, api.MaxMoney)
	fill(s.Members, of(63, member(api.StatusLeft, api.MaxStake, api.MaxStake), api.MaxScore, api.MaxStreak))
	s.Entry, s.Exit = slices.Repeat([]int{127}, api.MaxMembers), slices.Repeat([]int{127}, api.MaxMembers)
	fill(s.Pool, api.Deposit{Account: 63, Member: 127, Amount: api.MaxMoney, New: true})
	fill(s.Dues, api.Due{Account: 63, At: mostTime, Amount: api.MaxMoney})
	if n := len(text(s)); len(s.Dues) != 64*51 || n > api.MaxBytes {
		t.Fatal(len(s.Dues), n)
	}
}
