package state_test

import (
	"fmt"
	"reflect"
	"slices"
	"testing"

	"bullion/api"
)

// modes are states' Calm and Emergency by which the modes come, with a quorum and without one.
func modes() map[int]func(s *api.State) {
	return map[int]func(s *api.State){
		api.ModeNormal:    func(s *api.State) {},
		api.ModeDelay:     func(s *api.State) { s.Calm = 1 },
		api.ModeLeak:      func(s *api.State) { s.Calm = 2 },
		api.ModeEmergency: func(s *api.State) { s.Emergency = true },
	}
}

// everywhere asks for a tick of a state in each mode: with a quorum, and with all marks gone.
func everywhere(t *testing.T, s api.State) {
	t.Helper()
	for _, mode := range modes() {
		ticks(t, but(s, mode))
		ticks(t, but(s, func(s *api.State) {
			mode(s)
			s.Marks = votes()
		}))
	}
}

// P24.2: a state that doesn't fit goes ahead of an epoch that is the last one; both faults at once.
func TestTickErrors(t *testing.T) {
	last := changed(func(s *api.State) { s.Epoch = api.MaxEpoch })
	fits(t, last, true)
	stops(t, last, api.ErrEpoch)
	stops(t, but(bare(1), func(s *api.State) { s.Epoch = api.MaxEpoch }), api.ErrEpoch)
	for _, fault := range []func(s *api.State){
		func(s *api.State) { s.Purses[0]++ },
		func(s *api.State) { s.Params.Churn = 0 },
		func(s *api.State) { s.Calm = -1 },
		func(s *api.State) { s.Marks = nil },
		func(s *api.State) { s.Entry = nil },
		func(s *api.State) { s.Members[0].Status = 0 },
		func(s *api.State) { s.Most = 5 },
		func(s *api.State) { s.Epoch = api.MaxEpoch + 1 },
		func(s *api.State) { s.Epoch = -1 },
		func(s *api.State) { *s = api.State{} },
	} {
		s := full()
		fault(&s)
		stops(t, s, api.ErrState)
		s = plain(last)
		fault(&s)
		stops(t, s, api.ErrState)
	}
	for _, p := range wrong(t) {
		stops(t, changed(func(s *api.State) { s.Params = p }), api.ErrState)
	}
}

// P24.2: the epoch is one more, up to MaxEpoch, and no further.
func TestTickEpoch(t *testing.T) {
	for _, epoch := range []int{0, 1, 5, 1000, api.MaxEpoch - 2, api.MaxEpoch - 1} {
		s, r := ticks(t, changed(func(s *api.State) { s.Epoch = epoch }))
		if s.Epoch != epoch+1 || r.Epoch != epoch {
			t.Fatalf("%d: %d, %d", epoch, s.Epoch, r.Epoch)
		}
		if s.Epoch == api.MaxEpoch {
			stops(t, s, api.ErrEpoch)
		}
	}
}

// P24.2: a tick of a state with something in every field, and of it in each mode.
func TestTickFull(t *testing.T) {
	ticks(t, full())
	everywhere(t, full())
	everywhere(t, changed(func(s *api.State) { s.Marks = votes(all(8)...) }))
	everywhere(t, bare(1))
	everywhere(t, bare(api.MaxAccounts))
}

// P24.2, phase 1: what is present, and what is active; just a quorum, and just none.
func TestQuorum(t *testing.T) {
	members := []api.Member{active(30), leaving(20), active(10 + 1), pending(40), member(api.StatusOut, 0, 0), member(api.StatusLeft, 0, 0)}
	for _, c := range []struct {
		marked  []int
		present uint64
		quorum  bool
	}{
		{nil, 0, false}, {[]int{0}, 30, false}, {[]int{1}, 20, false}, {[]int{0, 1}, 50, true}, {[]int{0, 2}, 40, false},
		{[]int{0, 2, 3, 4, 5}, 40, false}, {[]int{3, 4, 5}, 0, false}, {[]int{0, 1, 2}, 60, true}, {all(6), 60, true}, {[]int{1, 2}, 30, false},
	} {
		s, r := ticks(t, calls(members, c.marked...))
		calm := 1
		if c.quorum {
			calm = 0
		}
		if r.Present != c.present || r.Active != 60 || r.Quorum != c.quorum || s.Calm != calm {
			t.Fatalf("%v: %+v, %d", c.marked, r, s.Calm)
		}
		everywhere(t, calls(members, c.marked...))
	}
	for _, none := range [][]api.Member{nil, {pending(20)}, {member(api.StatusOut, 0, 0), member(api.StatusLeft, 0, 0)}} {
		s, r := ticks(t, calls(none, all(len(none))...))
		if r.Quorum || r.Present != 0 || r.Active != 0 || s.Calm != 1 || r.Minted != 0 {
			t.Fatalf("%+v", r)
		}
	}
}

// P24.2, phase 1: Calm counts the ticks without a quorum, up to MaxEpoch; the mode follows it, and the emergency goes ahead.
func TestCalm(t *testing.T) {
	for _, c := range []struct {
		calm   int
		marked bool
		next   int
		mode   int
	}{
		{0, true, 0, api.ModeNormal}, {1, true, 0, api.ModeNormal}, {3, true, 0, api.ModeNormal}, {api.MaxEpoch, true, 0, api.ModeNormal},
		{0, false, 1, api.ModeDelay}, {1, false, 2, api.ModeDelay}, {2, false, 3, api.ModeLeak}, {3, false, 4, api.ModeLeak},
		{api.MaxEpoch - 1, false, api.MaxEpoch, api.ModeLeak}, {api.MaxEpoch, false, api.MaxEpoch, api.ModeLeak},
	} {
		for _, emergency := range []bool{true, false} {
			s := calls([]api.Member{active(40), active(11)}, 1)
			s.Calm, s.Emergency = c.calm, emergency
			if c.marked {
				s.Marks = votes(0)
			}
			want := c.mode
			if emergency {
				want = api.ModeEmergency
			}
			after, r := ticks(t, s)
			if after.Calm != c.next || r.Mode != want || r.Quorum != c.marked || after.Emergency != emergency {
				t.Fatalf("%+v: %+v, %d", c, r, after.Calm)
			}
		}
	}
}

// P24.2, phase 1: of a Delay of 0 the first tick without a quorum leaks, of a longer one none of it.
func TestDelay(t *testing.T) {
	for _, delay := range []int{0, 1, 2, api.MaxTicks} {
		s := calls([]api.Member{active(40)})
		s.Params.Delay = delay
		for calm := range 5 {
			after, r := ticks(t, s)
			want := api.ModeDelay
			if calm+1 > delay {
				want = api.ModeLeak
			}
			if r.Mode != want || after.Calm != calm+1 {
				t.Fatalf("%d, %d: %+v", delay, calm, r)
			}
			s = after
		}
	}
}

// P24.2, phase 2: who counts has the standing behind the tick; nobody else has, marked or not.
func TestStandings(t *testing.T) {
	for mode, change := range modes() {
		for _, marked := range []bool{true, false} {
			// Of the first thirty it hangs whether there is a quorum.
			members := append(several(30, active(40)), stood(active(40), 9, 2), stood(leaving(40), 97, 4), stood(active(40), 1, 0))
			for _, status := range []int{api.StatusPending, api.StatusOut, api.StatusLeft} {
				m := stood(member(status, 0, 0), 50, 3)
				if status == api.StatusPending {
					m.Balance = 5
				}
				members = append(members, m)
			}
			there := all(30)
			if mode == api.ModeDelay || mode == api.ModeLeak {
				there = nil
			}
			if marked {
				there = append(there, 30, 31, 32, 33, 34, 35)
			}
			s := calls(members, there...)
			change(&s)
			// Who leaves in the same tick, or is put out, has its score still.
			after, r := ticks(t, s)
			if r.Mode != mode {
				t.Fatalf("%d: %+v", mode, r)
			}
			got := []uint64{after.Members[30].Score, after.Members[31].Score, after.Members[32].Score, uint64(after.Members[30].Streak), uint64(after.Members[32].Streak)}
			want := map[bool]map[int][]uint64{
				true: {
					api.ModeNormal: {7, 95, 0, 3, 1}, api.ModeDelay: {7, 95, 0, 3, 1}, api.ModeLeak: {7, 95, 0, 3, 1}, api.ModeEmergency: {7, 95, 0, 3, 1},
				},
				false: {
					api.ModeNormal: {9, 97, 1, 0, 0}, api.ModeDelay: {9, 97, 1, 0, 0}, api.ModeLeak: {13, 100, 5, 0, 0}, api.ModeEmergency: {17, 100, 9, 0, 0},
				},
			}[marked][mode]
			if !slices.Equal(got, want) {
				t.Fatalf("%d, %v: %v, want %v", mode, marked, got, want)
			}
			for _, i := range []int{34, 35} {
				if after.Members[i] != s.Members[i] {
					t.Fatalf("%+v is now %+v", s.Members[i], after.Members[i])
				}
			}
			if after.Members[33].Score != 50 {
				t.Fatalf("%+v", after.Members[33])
			}
		}
	}
}

// P24.2, phase 2: a streak goes up to the Streak of the parameters, a score down to 0.
func TestStreak(t *testing.T) {
	s := calls([]api.Member{stood(active(40), 5, 0)}, 0)
	for i := range 7 {
		after, _ := ticks(t, s)
		if m := after.Members[0]; m.Streak != min(i+1, 4) || m.Score != uint64(max(0, 5-2*(i+1))) {
			t.Fatalf("%d: %+v", i, m)
		}
		after.Marks = votes(0)
		s = after
	}
}

// P24.2, phase 3: what is minted, in each mode, and where it goes; example 2 and example 3 of the whole.
func TestMint(t *testing.T) {
	s := begins(t, genesis())
	s.Marks = votes(0, 1)
	after, r := ticks(t, s)
	if r.Minted != 7 || r.Paid != 6 || r.Kept != 1 || after.Minted != 7 || after.Treasury != 1 {
		t.Fatalf("%+v, %+v", r, after)
	}
	if after.Members[0].Balance != 27 || after.Members[1].Balance != 40 || !slices.Equal(after.Purses, []uint64{500, 204}) {
		t.Fatalf("%+v", after)
	}
	s.Marks = votes()
	after, r = ticks(t, s)
	if r.Mode != api.ModeDelay || r.Minted != 7 || r.Paid != 0 || r.Kept != 7 || after.Treasury != 7 || r.Quorum {
		t.Fatalf("%+v, %+v", r, after)
	}
	for mode, change := range modes() {
		for _, marked := range [][]int{nil, {0}, {1}, {0, 1}} {
			s := begins(t, genesis())
			s.Marks = votes(marked...)
			change(&s)
			after, r := ticks(t, s)
			want := uint64(7)
			if r.Mode == api.ModeLeak || r.Mode == api.ModeEmergency {
				want = 0
			}
			if r.Minted != want || after.Minted != want || r.Paid+r.Kept != want {
				t.Fatalf("%d: %+v", mode, r)
			}
		}
	}
}

// P24.2, phase 3: a mint up to Most is whole, one above it nothing.
func TestMintUpToMost(t *testing.T) {
	for _, marked := range [][]int{nil, {0, 1}} {
		for room, want := range map[uint64]uint64{0: 0, 1: 0, 6: 0, 7: 7, 8: 7, 100: 7} {
			s := begins(t, genesis())
			s.Marks, s.Most = votes(marked...), 765+room
			after, r := ticks(t, s)
			if r.Minted != want || after.Minted != want || r.Paid+r.Kept != want {
				t.Fatalf("%d: %+v", room, r)
			}
			// What was minted ahead counts as well, burned or not.
			s.Genesis, s.Minted, s.Burned, s.Most = 700, 165, 100, 865+room
			if _, r := ticks(t, s); r.Minted != want {
				t.Fatalf("%d: %+v", room, r)
			}
		}
	}
	s := begins(t, genesis())
	s.Marks, s.Most, s.Purses[0] = votes(0, 1), api.MaxMoney, api.MaxMoney-265-7
	after, r := ticks(t, settle(s))
	if r.Minted != 7 || after.Genesis+after.Minted != api.MaxMoney {
		t.Fatalf("%+v", r)
	}
	after.Marks = votes(0, 1)
	if _, r := ticks(t, after); r.Minted != 0 {
		t.Fatalf("%+v", r)
	}
}

// P24.2, phase 3: a mint of 0, by a rate of 0, or of nothing that is active.
func TestMintNothing(t *testing.T) {
	s := begins(t, genesis())
	s.Marks, s.Params.Rate = votes(0, 1), 0
	if after, r := ticks(t, s); r.Minted != 0 || r.Paid != 0 || r.Kept != 0 || after.Members[0].Balance != 25 || after.Members[0].Streak != 1 {
		t.Fatalf("%+v, %+v", r, after)
	}
	if _, r := ticks(t, calls([]api.Member{pending(20)}, 0)); r.Minted != 0 {
		t.Fatalf("%+v", r)
	}
}

// P24.2, phase 3: prizes go by effective balances and streaks; of a part that is too much the rest goes to the owner's purse.
func TestPrizes(t *testing.T) {
	s := calls([]api.Member{of(2, stood(active(39), 0, 4)), of(1, stood(leaving(40), 0, 0)), active(20), of(1, active(37))}, 0, 1, 2)
	s.Params.Rate, s.Exit, s.Params.Churn = 10<<20, []int{1}, 1
	after, r := ticks(t, s)
	// Active 110: 1100 by 10; the weights are 30 · 1400, 30 · 1100, 20 · 1100.
	if r.Minted != 110 || r.Paid != 47+37+24 || r.Kept != 2 || !r.Quorum {
		t.Fatalf("%+v", r)
	}
	if after.Members[0].Balance != 40 || after.Purses[2] != 100+46 || after.Purses[1] != 200+37 || after.Members[2].Balance != 40 || after.Purses[0] != 500+4 {
		t.Fatalf("%+v", after)
	}
	if !slices.Equal(after.Dues, []api.Due{{Account: 1, At: 7, Amount: 40}}) || after.Treasury != 1000+2 || after.Members[3].Balance != 37 {
		t.Fatalf("%+v", after)
	}
	everywhere(t, s)
	// Without a quorum those who are there are paid too, as long as it doesn't leak.
	s.Marks = votes(2)
	after, r = ticks(t, s)
	if r.Quorum || r.Mode != api.ModeDelay || r.Paid != 110 || r.Kept != 0 || after.Members[2].Balance != 40 || after.Purses[0] != 500+90 {
		t.Fatalf("%+v, %+v", r, after)
	}
}

// P24.2, phase 3: of those who don't count nobody is paid, marked or not.
func TestPrizesOfOthers(t *testing.T) {
	s := calls([]api.Member{active(20), pending(20), member(api.StatusOut, 0, 0), member(api.StatusLeft, 0, 0)}, 0, 1, 2, 3)
	s.Params.Churn, s.Entry = 1, []int{1}
	after, r := ticks(t, s)
	if r.Paid != 5 || after.Members[0].Balance != 25 || after.Members[1].Balance != 20 {
		t.Fatalf("%+v, %+v", r, after)
	}
}

// P24.2, phase 4: who counts and is absent loses, by the mode; what of it is burned, and what isn't.
func TestFines(t *testing.T) {
	for _, c := range []struct {
		mode         int
		burn         int
		lost, burned []uint64
	}{
		// Of 30 with the score 96, and of 20 with the score 0, behind this tick's Bias.
		{api.ModeNormal, 5000, []uint64{3, 2}, []uint64{1, 1}},
		{api.ModeDelay, 5000, []uint64{3, 2}, []uint64{1, 1}},
		{api.ModeLeak, 5000, []uint64{30, 1}, []uint64{15, 0}},
		{api.ModeLeak, 0, []uint64{30, 1}, []uint64{0, 0}},
		{api.ModeLeak, 10000, []uint64{30, 1}, []uint64{30, 1}},
		{api.ModeEmergency, 5000, []uint64{40, 4}, []uint64{20, 2}},
		{api.ModeEmergency, 3333, []uint64{40, 4}, []uint64{13, 1}},
	} {
		members := append(several(10, active(20)), stood(active(40), 96, 3), stood(leaving(29), 0, 2))
		s := calls(members, all(10)...)
		modes()[c.mode](&s)
		if c.mode == api.ModeDelay || c.mode == api.ModeLeak {
			s.Marks = votes(0)
			s.Members = append(s.Members[:1:1], s.Members[10:]...)
			s.Exit = []int{2}
		}
		s.Params.Absent, s.Params.Burn, s.Params.Rate = 1000, c.burn, 0
		s = settle(s)
		after, r := ticks(t, s)
		lost, burned := c.lost[0]+c.lost[1], c.burned[0]+c.burned[1]
		if r.Mode != c.mode || r.Burned != burned || r.Fees != lost-burned {
			t.Fatalf("%+v: %+v", c, r)
		}
		if after.Burned != s.Burned+burned || after.Treasury != s.Treasury+lost-burned {
			t.Fatalf("%+v: %+v", c, after)
		}
	}
}

// P24.2, phase 4: fines of nothing, of all above Floor, and of all that there is.
func TestFinesAtTheEnds(t *testing.T) {
	for _, c := range []struct {
		absent int
		m      api.Member
		left   uint64
		out    bool
	}{
		{0, active(20), 20, false}, {499, active(20), 20, false}, {500, active(20), 19, false},
		{4500, active(20), 11, false}, {5000, active(20), 10, true}, {10000, active(20), 0, true}, {10000, active(29), 9, true},
		{10000, active(40), 10, true}, {9666, active(40), 12, false}, {10000, active(11), 1, true}, {10000, member(api.StatusActive, 25, 30), 0, true},
	} {
		s := calls(append(several(9, active(30)), c.m), all(9)...)
		s.Params.Absent, s.Params.Rate = c.absent, 0
		s = settle(s)
		after, r := ticks(t, s)
		m := after.Members[9]
		if c.out != (m.Status == api.StatusOut) || c.out != slices.Equal(r.Out, []int{9}) || r.Burned+r.Fees != c.m.Balance-c.left {
			t.Fatalf("%+v: %+v, %+v", c, m, r)
		}
		if c.out && (m.Balance != 0 || m.Eff != 0) || !c.out && m.Balance != c.left {
			t.Fatalf("%+v: %+v", c, m)
		}
		var dues []api.Due
		if c.out && c.left > 0 {
			dues = []api.Due{{Account: 0, At: 7, Amount: c.left}}
		}
		if !slices.Equal(after.Dues, dues) {
			t.Fatalf("%+v: %v", c, after.Dues)
		}
	}
}

// P24.2, phase 4: nobody else loses: who is there doesn't, nor who doesn't count.
func TestFinesOfOthers(t *testing.T) {
	s := calls([]api.Member{stood(active(40), 90, 0), stood(pending(15), 90, 0), stood(member(api.StatusOut, 0, 0), 90, 0)}, 0)
	s.Emergency, s.Params.Absent, s.Params.Churn = true, 10000, 1
	after, r := ticks(t, s)
	if r.Burned != 0 || r.Fees != 0 || after.Members[0].Balance != 40 || after.Members[1].Balance != 15 || after.Treasury != 1000 {
		t.Fatalf("%+v, %+v", r, after)
	}
}

// leaky is a state in which those behind the first ten are absent, and lose nothing but what Absent says.
func leaky(absent int, members ...api.Member) api.State {
	s := calls(append(several(10, active(30)), members...), all(10)...)
	s.Params.Absent, s.Params.Rate = absent, 0
	return settle(s)
}

// P24.2, phase 5: who has just Floor is put out, who has one more isn't; what it had is due at the epoch and Wait together.
func TestOut(t *testing.T) {
	for _, wait := range []int{0, 1, 2, api.MaxWait} {
		s := leaky(500, of(1, stood(active(20), 33, 4)), of(2, active(11)), of(1, active(30)), of(2, stood(leaving(12), 5, 0)))
		s.Params.Wait, s.Params.Absent = wait, 5000
		after, r := ticks(t, s)
		if !slices.Equal(r.Out, []int{10, 11, 13}) || len(r.Left) != 0 {
			t.Fatalf("%+v", r)
		}
		for _, i := range r.Out {
			m := after.Members[i]
			m.Score = 0
			if m != of(s.Members[i].Owner, member(api.StatusOut, 0, 0)) || after.Members[i].Score != s.Members[i].Score {
				t.Fatalf("%+v", after.Members[i])
			}
		}
		if after.Members[12].Balance != 15 || after.Members[12].Status != api.StatusActive {
			t.Fatalf("%+v", after.Members[12])
		}
		// 10 of the first one, 6 and 7 of the two of the account 2.
		if wait == 0 {
			if len(after.Dues) != 0 || after.Purses[1] != 210 || after.Purses[2] != 113 {
				t.Fatalf("%+v", after)
			}
		} else if !slices.Equal(after.Dues, []api.Due{{Account: 1, At: 5 + wait, Amount: 10}, {Account: 2, At: 5 + wait, Amount: 13}}) {
			t.Fatalf("%+v", after.Dues)
		}
		everywhere(t, s)
	}
	s := leaky(0, member(api.StatusActive, 11, 10))
	if after, r := ticks(t, s); len(r.Out) != 0 || after.Members[10].Balance != 11 {
		t.Fatalf("%+v", r)
	}
}

// P24.2, phase 5: who is put out waits to leave no more, and another one leaves in its stead.
func TestOutOfExit(t *testing.T) {
	for _, c := range []struct {
		exit, left, rest []int
	}{
		{[]int{12, 10, 11, 13}, []int{10, 13}, nil},
		{[]int{10, 13, 11, 12}, []int{10, 13}, nil},
		{[]int{11, 12, 13, 10}, []int{13, 10}, nil},
	} {
		for churn := 1; churn <= 3; churn++ {
			s := leaky(5000, leaving(40), leaving(12), leaving(20), leaving(30))
			s.Exit, s.Params.Churn = c.exit, churn
			after, r := ticks(t, s)
			n := min(churn, 2)
			if !slices.Equal(r.Out, []int{11, 12}) || !slices.Equal(r.Left, c.left[:n]) || !slices.Equal(after.Exit, c.left[n:]) {
				t.Fatalf("%v, %d: %+v, %v", c, churn, r, after.Exit)
			}
			for _, i := range r.Out {
				if after.Members[i].Status != api.StatusOut {
					t.Fatalf("%+v", after.Members[i])
				}
			}
			for _, i := range r.Left {
				if after.Members[i].Status != api.StatusLeft {
					t.Fatalf("%+v", after.Members[i])
				}
			}
		}
	}
}

// P24.2, phase 5: several are put out at once, all of them too; of the same account and epoch there is one due, also with one that is there already.
func TestOutSeveral(t *testing.T) {
	s := calls(several(api.MaxMembers, active(20)))
	s.Params.Absent, s.Params.Rate = 10000, 0
	for i := range s.Members {
		s.Members[i].Owner, s.Members[i].Balance = i%3, 23
	}
	s.Dues = []api.Due{{Account: 0, At: 6, Amount: 1}, {Account: 2, At: 7, Amount: 100}, {Account: 0, At: 8, Amount: 9}}
	after, r := ticks(t, settle(s))
	if !slices.Equal(r.Out, all(128)) {
		t.Fatalf("%v", r.Out)
	}
	want := []api.Due{{Account: 0, At: 6, Amount: 1}, {Account: 2, At: 7, Amount: 100 + 42*3}, {Account: 0, At: 7, Amount: 43 * 3}, {Account: 1, At: 7, Amount: 43 * 3}, {Account: 0, At: 8, Amount: 9}}
	if !slices.Equal(after.Dues, want) {
		t.Fatalf("%v", after.Dues)
	}
}

// P24.2, phase 6: the first Churn of Exit leave: shorter, just as long, and longer, with a quorum and without one.
func TestLeave(t *testing.T) {
	for n := range 8 {
		for _, churn := range []int{1, 2, 3, 5, api.MaxChurn} {
			s := calls(append(several(10, active(30)), several(n, of(1, stood(leaving(40), 9, 3)))...), all(10+n)...)
			s.Params.Churn, s.Params.Rate = churn, 0
			slices.Reverse(s.Exit)
			s = settle(s)
			after, r := ticks(t, s)
			gone := min(n, churn)
			if !slices.Equal(r.Left, s.Exit[:gone]) || !slices.Equal(after.Exit, s.Exit[gone:]) || len(r.Out) != 0 {
				t.Fatalf("%d, %d: %+v", n, churn, r)
			}
			for i, m := range after.Members[10:] {
				want := of(1, stood(member(api.StatusLeft, 0, 0), 7, 0))
				if slices.Contains(after.Exit, 10+i) {
					want = of(1, stood(leaving(40), 7, 4))
				}
				if m != want {
					t.Fatalf("%+v, want %+v", m, want)
				}
			}
			if gone > 0 && !slices.Equal(after.Dues, []api.Due{{Account: 1, At: 7, Amount: uint64(40 * gone)}}) {
				t.Fatalf("%v", after.Dues)
			}
			everywhere(t, s)
		}
	}
}

// P24.2, phase 7: dues are paid as soon as their epoch is there, and no sooner; with a quorum and without one.
func TestRipe(t *testing.T) {
	for _, marked := range [][]int{nil, {0}} {
		s := calls([]api.Member{active(30)}, marked...)
		s.Dues = []api.Due{{Account: 2, At: 0, Amount: 1}, {Account: 0, At: 4, Amount: 2}, {Account: 1, At: 5, Amount: 4}, {Account: 0, At: 5, Amount: 8}, {Account: 2, At: 6, Amount: 16}, {Account: 0, At: mostTime, Amount: 32}}
		s.Params.Rate = 0
		after, r := ticks(t, settle(s))
		if !slices.Equal(after.Purses, []uint64{510, 204, 101}) || !slices.Equal(after.Dues, s.Dues[4:]) {
			t.Fatalf("%+v, %+v", after, r)
		}
		again, _ := ticks(t, after)
		if !slices.Equal(again.Purses, []uint64{510, 204, 117}) || !slices.Equal(again.Dues, s.Dues[5:]) {
			t.Fatalf("%+v", again)
		}
	}
}

// P24.2, phase 7: what is due to somebody that was put out, or left, is paid Wait ticks on.
func TestWait(t *testing.T) {
	for wait := range 4 {
		s := leaky(5000, of(1, active(20)), of(1, leaving(40)))
		s.Params.Wait = wait
		var r api.Report
		for i := range 6 {
			s, r = ticks(t, s)
			if (s.Purses[1] == 200+10+25) != (i >= wait) || (s.Purses[1] == 200) != (i < wait) {
				t.Fatalf("%d, %d: %+v, %+v", wait, i, s, r)
			}
		}
	}
}

// P24.2, phase 8: a deposit of a new one makes a member behind all; of others it goes to the one that there is.
func TestDeposits(t *testing.T) {
	s := calls([]api.Member{active(30), of(1, active(20)), of(1, pending(15)), of(1, stood(member(api.StatusOut, 0, 0), 60, 0)), of(1, stood(member(api.StatusLeft, 0, 0), 70, 2)), of(1, leaving(20))}, 0, 1)
	s.Params.Rate, s.Params.Churn, s.Params.Absent = 0, 1, 0
	s.Exit = []int{5}
	s.Pool = []api.Deposit{
		{Account: 1, Member: 4, Amount: 50}, {Account: 2, Amount: 33, New: true}, {Account: 1, Member: 1, Amount: 5}, {Account: 1, Member: 2, Amount: 100},
		{Account: 2, Member: 3, Amount: 7}, {Account: 0, Amount: 41, New: true}, {Account: 2, Member: 1, Amount: 30}, {Account: 2, Member: 3, Amount: 2},
	}
	s = settle(s)
	after, r := ticks(t, s)
	if !r.Quorum || len(after.Pool) != 0 || len(after.Members) != 8 || !slices.Equal(r.Started, []int{2}) {
		t.Fatalf("%+v, %+v", r, after)
	}
	for i, want := range map[int]api.Member{
		1: of(1, stood(member(api.StatusActive, 40, 30), 0, 1)),
		2: of(1, active(40)),
		3: of(1, stood(pending(9), 60, 0)),
		4: of(1, stood(pending(40), 70, 2)),
		6: of(2, pending(33)),
		7: of(0, pending(40)),
	} {
		if after.Members[i] != want {
			t.Fatalf("%d: %+v, want %+v", i, after.Members[i], want)
		}
	}
	if !slices.Equal(after.Entry, []int{4, 6, 3, 7}) || !slices.Equal(after.Purses, []uint64{501, 200 + 10 + 75, 100 + 15}) {
		t.Fatalf("%v, %v", after.Entry, after.Purses)
	}
	everywhere(t, s)
	// Without a quorum nothing of that is done.
	s.Marks = votes(0)
	after, r = ticks(t, s)
	if r.Quorum || !slices.Equal(after.Pool, s.Pool) || len(after.Members) != 6 || len(r.Started) != 0 || !slices.Equal(after.Entry, []int{2}) || after.Purses[2] != 100 {
		t.Fatalf("%+v, %+v", r, after)
	}
}

// P24.2, phase 8: a deposit for who is active, or leaves, is at stake at once, and weighs in the same tick.
func TestDepositsAtStake(t *testing.T) {
	s := calls([]api.Member{active(11), leaving(11)}, 0, 1)
	s.Params.Rate, s.Params.Churn = 0, 1
	s.Members = append(s.Members, leaving(11))
	s.Exit = []int{2, 1}
	s.Marks = votes(0, 1, 2)
	s.Pool = []api.Deposit{{Member: 0, Amount: 20}, {Member: 1, Amount: 29}, {Account: 1, Member: 2, Amount: 12}}
	after, r := ticks(t, settle(s))
	// The one that has left waits again.
	if after.Members[0].Eff != 30 || after.Members[1].Eff != 30 || after.Members[1].Status != api.StatusLeaving || after.Members[2] != stood(active(12), 0, 0) {
		t.Fatalf("%+v, %+v", after, r)
	}
	if !slices.Equal(r.Left, []int{2}) || !slices.Equal(r.Started, []int{2}) || len(after.Entry) != 0 {
		t.Fatalf("%+v", r)
	}
}

// P24.2, phase 8: who is put out in a tick may wait again in it.
func TestDepositsOfOut(t *testing.T) {
	s := leaky(5000, of(1, stood(active(20), 8, 1)), of(1, active(12)))
	s.Pool = []api.Deposit{{Account: 2, Member: 10, Amount: 7}, {Account: 2, Member: 11, Amount: 45}}
	after, r := ticks(t, settle(s))
	if !slices.Equal(r.Out, []int{10, 11, 10}) || !slices.Equal(r.Started, []int{11}) {
		t.Fatalf("%+v", r)
	}
	if after.Members[11] != of(1, active(40)) || after.Members[10] != of(1, stood(member(api.StatusOut, 0, 0), 8, 0)) {
		t.Fatalf("%+v", after.Members)
	}
	if !slices.Equal(after.Dues, []api.Due{{Account: 1, At: 7, Amount: 10 + 7 + 7}}) || after.Purses[2] != 105 {
		t.Fatalf("%+v", after)
	}
}

// P24.2, phase 8: there are at most MaxMembers members: what is for more of them goes back.
func TestDepositsFull(t *testing.T) {
	for _, n := range []int{api.MaxMembers - 2, api.MaxMembers - 1, api.MaxMembers} {
		s := calls(append(several(n-1, active(30)), member(api.StatusOut, 0, 0)), all(n)...)
		s.Params.Rate, s.Params.Churn = 0, api.MaxChurn
		s.Pool = []api.Deposit{{Account: 1, Amount: 22, New: true}, {Account: 2, Amount: 45, New: true}, {Account: 1, Member: n - 1, Amount: 50}, {Account: 1, Amount: 9, New: true}}
		after, r := ticks(t, settle(s))
		fit := min(3, api.MaxMembers-n)
		if len(after.Members) != n+fit || len(after.Pool) != 0 {
			t.Fatalf("%d: %d", n, len(after.Members))
		}
		want := map[int][]uint64{
			api.MaxMembers - 2: {500, 200 + 10 + 9, 105}, api.MaxMembers - 1: {500, 200 + 10 + 9, 145}, api.MaxMembers: {500, 200 + 22 + 10 + 9, 145},
		}[n]
		if !slices.Equal(after.Purses, want) || !slices.Equal(r.Started, slices.Concat([]int{n, n + 1}[:fit], []int{n - 1})) {
			t.Fatalf("%d: %v, %v", n, after.Purses, r.Started)
		}
	}
}

// P24.2, phase 8: what is above Cap goes to the account's purse, whoever owns the member.
func TestDepositsAboveCap(t *testing.T) {
	for amount, above := range map[uint64]uint64{1: 0, 10: 0, 20: 0, 21: 1, 1000: 980} {
		for _, m := range []api.Member{active(20), leaving(20), pending(20)} {
			s := calls(append(several(10, active(30)), of(1, m)), all(11)...)
			s.Params.Rate, s.Params.Churn = 0, 1
			if m.Status == api.StatusLeaving {
				s.Members, s.Exit = append(s.Members, leaving(30)), []int{11, 10}
			}
			s.Pool = []api.Deposit{{Account: 2, Member: 10, Amount: amount}}
			after, _ := ticks(t, settle(s))
			if after.Purses[2] != 100+above || after.Purses[1] != 200 || after.Members[10].Balance != min(20+amount, 40) {
				t.Fatalf("%d: %+v", amount, after)
			}
		}
	}
	s := calls([]api.Member{active(40)}, 0)
	s.Params.Rate = 0
	s.Pool = []api.Deposit{{Account: 1, Member: 0, Amount: 5}, {Account: 2, Amount: api.MaxStake, New: true}}
	after, _ := ticks(t, settle(but(s, func(s *api.State) { s.Most = api.MaxMoney })))
	if after.Purses[1] != 205 || after.Purses[2] != 100+api.MaxStake-40 {
		t.Fatalf("%+v", after)
	}
}

// P24.2, phase 8: the first Churn of Entry start: shorter, just as long, and longer; without a quorum nobody does.
func TestStart(t *testing.T) {
	for n := range 7 {
		for _, churn := range []int{1, 2, 3, 5, api.MaxChurn} {
			s := calls(append(several(10, active(30)), several(n, of(1, stood(pending(27), 9, 3)))...), all(10+n)...)
			s.Params.Churn, s.Params.Rate = churn, 0
			slices.Reverse(s.Entry)
			after, r := ticks(t, settle(s))
			started := min(n, churn)
			if !slices.Equal(r.Started, s.Entry[:started]) || !slices.Equal(after.Entry, s.Entry[started:]) {
				t.Fatalf("%d, %d: %+v", n, churn, r)
			}
			for _, i := range r.Started {
				if after.Members[i] != of(1, stood(active(27), 9, 0)) {
					t.Fatalf("%+v", after.Members[i])
				}
			}
			for _, i := range after.Entry {
				if after.Members[i] != s.Members[i] {
					t.Fatalf("%+v", after.Members[i])
				}
			}
			everywhere(t, s)
			s.Marks = votes(0, 1)
			after, r = ticks(t, s)
			if len(r.Started) != 0 || !slices.Equal(after.Entry, s.Entry) {
				t.Fatalf("%+v", r)
			}
		}
	}
}

// P24.2, phase 8: who can't start is put out, and counts among those Churn.
func TestStartOut(t *testing.T) {
	s := calls([]api.Member{active(40), of(1, stood(pending(10), 7, 2)), of(2, pending(11)), of(1, pending(1)), of(2, pending(40))}, 0)
	s.Params.Rate, s.Params.Churn = 0, 3
	after, r := ticks(t, settle(s))
	if !slices.Equal(r.Out, []int{1, 3}) || !slices.Equal(r.Started, []int{2}) || !slices.Equal(after.Entry, []int{4}) {
		t.Fatalf("%+v, %v", r, after.Entry)
	}
	if after.Members[1] != of(1, stood(member(api.StatusOut, 0, 0), 7, 0)) || after.Members[3] != of(1, member(api.StatusOut, 0, 0)) || after.Members[2] != of(2, active(11)) {
		t.Fatalf("%+v", after.Members)
	}
	if !slices.Equal(after.Dues, []api.Due{{Account: 1, At: 7, Amount: 11}}) {
		t.Fatalf("%v", after.Dues)
	}
	// Those put out in phase 5 are told ahead of them.
	s = leaky(5000, pending(5), active(12))
	if _, r := ticks(t, s); !slices.Equal(r.Out, []int{11, 10}) {
		t.Fatalf("%+v", r)
	}
	// With a Wait of 0 what was due is paid one tick on, since those that are ripe were paid already.
	s.Params.Wait = 0
	after, _ = ticks(t, s)
	if !slices.Equal(after.Dues, []api.Due{{Account: 0, At: 5, Amount: 5}}) || after.Purses[0] != 500+7 {
		t.Fatalf("%+v", after)
	}
	if after, _ = ticks(t, after); len(after.Dues) != 0 || after.Purses[0] != 500+7+5 {
		t.Fatalf("%+v", after)
	}
}

// P24.2, example 5 of the whole: a stake waits until a tick with a quorum, and then is a member, and starts in the same tick.
func TestStakeStarts(t *testing.T) {
	s := begins(t, genesis())
	s.Pool, s.Purses[0] = []api.Deposit{{Account: 0, Amount: 11, New: true}}, 489
	s, r := ticks(t, s)
	if r.Quorum || len(s.Members) != 2 || len(s.Pool) != 1 {
		t.Fatalf("%+v", s)
	}
	s.Marks = votes(0, 1)
	s, r = ticks(t, s)
	if !r.Quorum || len(s.Pool) != 0 || !slices.Equal(r.Started, []int{2}) || s.Members[2] != active(11) {
		t.Fatalf("%+v, %+v", s, r)
	}
}

// voted is a motion with votes of these places for it, and of those against it.
func voted(m api.Motion, yes, no []int) api.Motion {
	m.Yes, m.No = votes(yes...), votes(no...)
	return m
}

// chamber is a state of five members of 20, of whom these are marked, with motions.
func chamber(marked []int, motions ...api.Motion) api.State {
	s := calls(several(5, active(20)), marked...)
	s.Params.Rate, s.Params.Absent, s.Motions = 0, 0, motions
	return settle(s)
}

// does asks what became of the only motion.
func does(t *testing.T, s api.State, i, state int) (api.State, api.Report) {
	t.Helper()
	after, r := ticks(t, s)
	want := []int(nil)
	if state == api.MotionDone {
		want = []int{i}
	}
	if after.Motions[i].State != state || !slices.Equal(r.Done, want) {
		t.Fatalf("%+v: %+v, %v, want %d", s.Motions, after.Motions[i], r.Done, state)
	}
	return after, r
}

// P24.2, phase 9: motions of each sort pass and fail in the tick in which they end, and no sooner; with a quorum and without one.
func TestClose(t *testing.T) {
	for _, what := range whats() {
		for _, marked := range [][]int{nil, all(5)} {
			for _, ends := range []int{0, 4, 5, 6, 100} {
				for _, c := range []struct {
					yes, no []int
					passes  bool
				}{
					{[]int{0, 1}, nil, true}, {[]int{0}, nil, false}, {[]int{0, 1}, []int{2, 3}, false}, {[]int{0, 1, 2}, []int{3, 4}, true},
					{nil, []int{0, 1, 2}, false}, {nil, nil, false}, {[]int{7, 8, 9}, nil, false},
				} {
					m := voted(about(what), c.yes, c.no)
					m.Ends = ends
					want := api.MotionFailed
					if c.passes {
						want = api.MotionPassed
					}
					if ends > 5 {
						want = api.MotionOpen
					}
					after, _ := does(t, chamber(marked, m), 0, want)
					if due := after.Motions[0].Due; (due == 6) != (want == api.MotionPassed) || (due == 0) != (want != api.MotionPassed) {
						t.Fatalf("%+v", after.Motions[0])
					}
				}
			}
		}
	}
}

// P24.2, phase 9: votes weigh what is at stake behind phase 8: whom that put out, or let leave, weighs nothing, and who starts weighs.
func TestCloseWeighs(t *testing.T) {
	s := calls([]api.Member{active(30), active(30), active(30), active(30), active(30), leaving(30), active(11), pending(30)}, all(5)...)
	s.Params.Rate, s.Params.Absent, s.Params.Churn, s.Params.Quorum = 0, 10000, 1, 0
	s.Exit, s.Entry = []int{5}, []int{7}
	for who, state := range map[int]int{0: api.MotionPassed, 5: api.MotionFailed, 6: api.MotionFailed, 7: api.MotionPassed} {
		s.Motions = []api.Motion{voted(about(api.MoveOn), []int{who}, nil)}
		does(t, settle(s), 0, state)
	}
	// What waits to be an effective balance doesn't weigh yet.
	rich := chamber(all(5), voted(about(api.MoveOn), []int{0}, []int{1}))
	rich.Params.Quorum, rich.Pool = 0, []api.Deposit{{Member: 0, Amount: 20}}
	does(t, settle(rich), 0, api.MotionFailed)
}

// P24.2, phase 9: what is ripe is done: of each sort, at e, e - 1 and e + 1, with a quorum and without one.
func TestDone(t *testing.T) {
	for _, what := range whats() {
		for _, marked := range [][]int{nil, all(5)} {
			for _, due := range []int{0, 4, 5, 6, mostTime} {
				s := chamber(marked, passed(about(what), due))
				// The treasury gets nothing of fines.
				s.Emergency, s.Params.Burn = what == api.MoveOff, api.MaxRate
				everywhere(t, s)
				done := due <= 5 && (len(marked) > 0 || what == api.MoveOn || what == api.MoveOff)
				want := api.MotionPassed
				if done {
					want = api.MotionDone
				}
				after, _ := does(t, s, 0, want)
				if after.Emergency != (what == api.MoveOn && done || what == api.MoveOff && !done) {
					t.Fatalf("%+v", after)
				}
				if (after.Params.Delay == 7) != (what == api.MoveParams && done) {
					t.Fatalf("%+v", after.Params)
				}
				paid := what == api.MoveSpend && done
				if paid && (after.Treasury != 970 || after.Purses[1] != 230) || !paid && (after.Treasury != 1000 || after.Purses[1] != 200) {
					t.Fatalf("%+v", after)
				}
			}
		}
	}
}

// P24.2, phase 9: what passes is done in the same tick, if Enact is 0; of a motion that ended long ago it is due from now on.
func TestDoneAtOnce(t *testing.T) {
	for _, what := range whats() {
		for enact := range 3 {
			for _, ends := range []int{1, 5} {
				m := voted(about(what), all(3), nil)
				m.Ends = ends
				s := chamber(all(5), m)
				s.Params.Enact = enact
				for i := range 3 {
					want := api.MotionPassed
					if i >= enact {
						want = api.MotionDone
					}
					after, r := ticks(t, s)
					if after.Motions[0].State != want || after.Motions[0].Due != 5+enact || (len(r.Done) == 1) != (i == enact) {
						t.Fatalf("%d, %d: %+v, %+v", enact, i, after.Motions[0], r)
					}
					after.Marks = votes(all(5)...)
					s = after
				}
			}
		}
	}
}

// P24.2, phase 9: what is open, done, or failed isn't done, whenever it is due.
func TestDoneOnlyPassed(t *testing.T) {
	for _, what := range whats() {
		for _, state := range []int{api.MotionOpen, api.MotionDone, api.MotionFailed} {
			m := about(what)
			m.State, m.Due, m.Ends = state, 0, 9
			after, r := ticks(t, chamber(all(5), m))
			if len(r.Done) != 0 || after.Motions[0].State != state || after.Treasury != 1000 || after.Emergency || after.Params.Delay != 2 {
				t.Fatalf("%+v, %+v", after, r)
			}
		}
	}
}

// spend is a motion to spend so much, to an account, that is ripe.
func spend(amount uint64, to int) api.Motion {
	m := passed(about(api.MoveSpend), 5)
	m.Amount, m.To = amount, to
	return m
}

// P24.2, phase 9: all that the treasury has may be spent, and no more.
func TestSpend(t *testing.T) {
	for amount, done := range map[uint64]bool{0: true, 1: true, 999: true, 1000: true, 1001: false, 1 << 40: false, api.MaxMoney: false} {
		for to := range 3 {
			want := api.MotionFailed
			if done {
				want = api.MotionDone
			}
			after, _ := does(t, chamber(all(5), spend(amount, to)), 0, want)
			paid := amount
			if !done {
				paid = 0
			}
			if after.Treasury != 1000-paid || after.Purses[to] != []uint64{500, 200, 100}[to]+paid {
				t.Fatalf("%+v", after)
			}
		}
	}
	// What the tick itself brings, and takes, counts.
	s := leaky(10000, active(11))
	s.Params.Burn = 0
	s.Motions = []api.Motion{spend(1010, 0)}
	does(t, settle(s), 0, api.MotionDone)
	s.Motions[0].Amount++
	does(t, settle(s), 0, api.MotionFailed)
}

// P24.2, phase 9: of two that can't be both paid, the first one is; one that is too much goes by, and the next one is paid.
func TestSpendSeveral(t *testing.T) {
	for _, c := range []struct {
		amounts []uint64
		done    []int
		left    uint64
	}{
		{[]uint64{600, 600}, []int{0}, 400}, {[]uint64{600, 400}, []int{0, 1}, 0}, {[]uint64{600, 401}, []int{0}, 400},
		{[]uint64{1001, 1000}, []int{1}, 0}, {[]uint64{1000, 1, 0}, []int{0, 2}, 0}, {[]uint64{700, 400, 300}, []int{0, 2}, 0},
	} {
		var motions []api.Motion
		for i, n := range c.amounts {
			motions = append(motions, spend(n, 1+i%2))
		}
		after, r := ticks(t, chamber(all(5), motions...))
		if !slices.Equal(r.Done, c.done) || after.Treasury != c.left {
			t.Fatalf("%+v: %+v, %d", c, r, after.Treasury)
		}
		for i, m := range after.Motions {
			if (m.State == api.MotionDone) != slices.Contains(c.done, i) || (m.State == api.MotionFailed) == slices.Contains(c.done, i) {
				t.Fatalf("%+v: %+v", c, m)
			}
		}
	}
}

// P24.2, phase 9: they are done in the order of their places: of several about the emergency, or about parameters, the last one holds.
func TestDoneInOrder(t *testing.T) {
	on, off := passed(about(api.MoveOn), 5), passed(about(api.MoveOff), 4)
	for _, c := range []struct {
		motions []api.Motion
		want    bool
	}{
		{[]api.Motion{on, off}, false}, {[]api.Motion{off, on}, true}, {[]api.Motion{on, on}, true}, {[]api.Motion{on, off, on}, true},
	} {
		for _, emergency := range []bool{true, false} {
			s := chamber(nil, c.motions...)
			s.Emergency = emergency
			after, r := ticks(t, s)
			if after.Emergency != c.want || len(r.Done) != len(c.motions) {
				t.Fatalf("%+v, %+v", after, r)
			}
			if (r.Mode == api.ModeEmergency) != emergency {
				t.Fatalf("the mode goes by what was ahead of the tick: %+v", r)
			}
		}
	}
	for _, order := range [][]int{{7, 9}, {9, 7}, {3, 2}, {2, 3, 9}} {
		var motions []api.Motion
		for _, delay := range order {
			motions = append(motions, change(func(p *api.Params) { p.Delay = delay }))
		}
		after, r := ticks(t, chamber(all(5), motions...))
		if after.Params != with(func(p *api.Params) { p.Delay = order[len(order)-1] }) || !slices.Equal(r.Done, all(len(order))) {
			t.Fatalf("%+v, %+v", after.Params, r)
		}
	}
}

// change is a motion for simple parameters that are changed, which is ripe.
func change(do func(p *api.Params)) api.Motion {
	m := passed(about(api.MoveParams), 5)
	m.Params = with(do)
	return m
}

// P24.2, example 7 of the whole: a motion for the emergency, both for it, and five ticks.
func TestEmergency(t *testing.T) {
	s := begins(t, genesis())
	m := voted(about(api.MoveOn), []int{0, 1}, nil)
	m.Ends = 2
	s.Motions = []api.Motion{m}
	for i := range 5 {
		var r api.Report
		s, r = ticks(t, s)
		if s.Emergency != (i >= 3) || (r.Mode == api.ModeEmergency) != (i >= 4) {
			t.Fatalf("%d: %+v, %+v", i, s, r)
		}
	}
}

// P24.2, phase 9: up to it all goes by the parameters ahead of the tick; Wait does in all phases.
func TestParamsAhead(t *testing.T) {
	m := change(func(p *api.Params) {
		p.Delay, p.Wait, p.Churn, p.Quorum, p.Enact, p.Rate, p.Absent, p.Burn, p.Streak = 0, 9, 1, 10000, 0, 4<<20, 10000, 0, 1
	})
	voting := voted(about(api.MoveOn), all(4), nil)
	members := append(several(10, stood(active(30), 0, 4)), of(1, pending(20)), of(1, pending(20)), of(1, leaving(30)), of(1, leaving(30)), of(2, active(20)))
	s := calls(members, all(10)...)
	s.Motions, s.Params.Absent, s.Params.Churn = []api.Motion{m, voting}, 5000, 2
	s.Pool = []api.Deposit{{Account: 2, Amount: 44, New: true}}
	after, r := ticks(t, settle(s))
	if len(r.Left) != 2 || len(r.Started) != 2 || !slices.Equal(r.Out, []int{14}) || r.Minted != 20 {
		t.Fatalf("%+v", r)
	}
	if !slices.Equal(after.Dues, []api.Due{{Account: 2, At: 7, Amount: 10}, {Account: 1, At: 7, Amount: 30}}) {
		t.Fatalf("%+v", after.Dues)
	}
	if after.Motions[1].State != api.MotionPassed || after.Motions[1].Due != 6 || after.Members[0].Streak != 1 {
		t.Fatalf("%+v", after)
	}
	// From the next tick on it goes by the new ones.
	after, r = ticks(t, after)
	if r.Mode != api.ModeLeak || r.Minted != 0 || after.Params.Wait != 9 {
		t.Fatalf("%+v", r)
	}
}

// P24.2, phase 10: a Cap that falls takes what is above it, of each status, to the owner's purse; one that rises takes nothing.
func TestCap(t *testing.T) {
	members := []api.Member{active(40), of(1, active(40)), of(1, leaving(40)), of(2, pending(40)), active(33), member(api.StatusOut, 0, 0)}
	for most, want := range map[uint64][]uint64{30: {500 + 10 + 3, 220, 110}, 35: {505, 210, 105}, 39: {501, 202, 101}, 40: {500, 200, 100}, 41: {500, 200, 100}, 1000: {500, 200, 100}} {
		s := calls(append(members, leaving(30)), 0, 1, 2, 4, 6)
		s.Members = append(s.Members, pending(12))
		s.Params.Rate, s.Params.Absent, s.Params.Churn, s.Exit, s.Entry = 0, 0, 1, []int{6, 2}, []int{7, 3}
		s.Motions = []api.Motion{change(func(p *api.Params) {
			p.Cap, p.ScoreCap = most, 1<<20
		})}
		everywhere(t, settle(s))
		after, r := ticks(t, settle(s))
		if !slices.Equal(r.Done, []int{0}) || after.Params.Cap != most || !slices.Equal(after.Purses, want) {
			t.Fatalf("%d: %+v, %+v", most, r, after)
		}
		for _, i := range []int{0, 1, 2, 3} {
			if after.Members[i].Balance != min(40, most) {
				t.Fatalf("%d: %+v", most, after.Members[i])
			}
		}
	}
}

// P24.2, phase 10: a Floor that rises to a balance, and above it, puts out who counts, and lets wait who is pending.
func TestFloor(t *testing.T) {
	for floor, out := range map[uint64][]int{10: nil, 19: nil, 20: {1}, 21: {1, 2}, 24: {1, 2}, 25: {1, 2, 3}, 29: {1, 2, 3}} {
		s := calls([]api.Member{active(30), of(1, active(20)), of(1, active(21)), of(2, leaving(25)), of(2, pending(15)), member(api.StatusOut, 0, 0), leaving(12), pending(30)}, 0, 1, 2)
		s.Params.Rate, s.Params.Absent, s.Params.Churn, s.Params.Wait = 0, 0, 1, 3
		s.Exit, s.Entry = []int{6, 3}, []int{7, 4}
		m := change(func(p *api.Params) { p.Floor, p.Rate, p.Absent, p.Wait = floor, 0, 0, 40 })
		s.Motions = []api.Motion{m}
		everywhere(t, settle(s))
		after, r := ticks(t, settle(s))
		if !slices.Equal(r.Out, out) || after.Members[4].Status != api.StatusPending || !slices.Equal(after.Entry, []int{4}) {
			t.Fatalf("%d: %+v, %+v", floor, r, after)
		}
		waits := !slices.Contains(out, 3)
		if slices.Contains(after.Exit, 3) != waits || len(after.Exit) > 1 {
			t.Fatalf("%d: %v", floor, after.Exit)
		}
		sum := uint64(0)
		for _, d := range after.Dues {
			if d.At != 8 {
				t.Fatalf("%d: %+v", floor, d)
			}
			sum += d.Amount
		}
		if want := map[int]uint64{0: 12, 1: 32, 2: 53, 3: 78}[len(out)]; sum != want {
			t.Fatalf("%d: %+v", floor, after.Dues)
		}
	}
}

// P24.2, phase 10: standings are trimmed, of each status.
func TestTrim(t *testing.T) {
	s := calls([]api.Member{stood(active(30), 100, 4), stood(leaving(30), 90, 3), stood(pending(30), 80, 4), stood(member(api.StatusOut, 0, 0), 70, 4), stood(member(api.StatusLeft, 0, 0), 48, 1), leaving(30), pending(30)}, 0, 1, 5)
	s.Params.Rate, s.Params.Churn, s.Exit, s.Entry = 0, 1, []int{5, 1}, []int{6, 2}
	s.Motions = []api.Motion{change(func(p *api.Params) { p.Streak, p.ScoreCap = 2, 60 })}
	everywhere(t, settle(s))
	after, _ := ticks(t, settle(s))
	for i, want := range map[int][2]int{0: {60, 2}, 1: {60, 2}, 2: {60, 2}, 3: {60, 2}, 4: {48, 1}} {
		if m := after.Members[i]; m.Score != uint64(want[0]) || m.Streak != want[1] {
			t.Fatalf("%d: %+v", i, m)
		}
	}
}

// P24.2, phase 10: parameters that are put in force as they are change nothing; nor do those that are changed, and changed back.
func TestSameParams(t *testing.T) {
	s := chamber(all(5))
	plainly, _ := ticks(t, s)
	for _, motions := range [][]api.Motion{
		{change(func(p *api.Params) { *p = s.Params })},
		{change(func(p *api.Params) { p.Floor, p.Cap = 29, 30 }), change(func(p *api.Params) { *p = s.Params })},
	} {
		s.Motions = motions
		after, r := ticks(t, s)
		after.Motions = nil
		if !alike(after, plainly) || len(r.Done) != len(motions) {
			t.Fatalf("%+v, want %+v", after, plainly)
		}
	}
}

// P24.2, phase 11: effective balances at both ends of what Next leaves.
func TestEff(t *testing.T) {
	for _, c := range []struct{ eff, balance, want uint64 }{
		{10, 20, 10}, {10, 21, 20}, {10, 31, 30}, {20, 30, 20}, {20, 31, 30}, {20, 15, 20}, {20, 14, 10}, {30, 25, 30}, {30, 24, 20}, {30, 40, 30}, {30, 14, 10}, {20, 11, 10}, {10, 11, 10},
	} {
		// A deposit, or a fine, takes the balance to where it is.
		for _, absent := range []int{0, 1000, 2000} {
			start := c.balance + c.eff*uint64(absent)/10000
			if start > 40 || nextOf(simple(), c.eff, start) != c.eff {
				continue
			}
			s := leaky(absent, member(api.StatusActive, start, c.eff))
			after, _ := ticks(t, s)
			if m := after.Members[10]; m.Balance != c.balance || m.Eff != c.want {
				t.Fatalf("%+v: %+v", c, m)
			}
		}
		for _, m := range []api.Member{member(api.StatusActive, 15, 20), member(api.StatusActive, 12, 10)} {
			if m.Eff != c.eff || c.balance <= m.Balance {
				continue
			}
			s := calls(append(several(10, active(30)), m), all(11)...)
			s.Params.Rate, s.Pool = 0, []api.Deposit{{Member: 10, Amount: c.balance - m.Balance}}
			after, _ := ticks(t, settle(s))
			if m := after.Members[10]; m.Balance != c.balance || m.Eff != c.want {
				t.Fatalf("%+v: %+v", c, m)
			}
		}
	}
}

// P24.2, phase 11: effective balances that don't fit any more, behind a change of parameters, are Whole.
func TestEffOfOthers(t *testing.T) {
	for _, c := range []struct {
		change func(p *api.Params)
		want   []uint64 // of 20 with 27, 30 with 40, 10 with 20, 30 with 25
	}{
		{func(p *api.Params) { p.Inc, p.MaxEff = 5, 30 }, []uint64{20, 30, 10, 30}},
		{func(p *api.Params) { p.Inc, p.MaxEff = 7, 21 }, []uint64{21, 21, 14, 21}},
		{func(p *api.Params) { p.Inc, p.MaxEff = 4, 20 }, []uint64{20, 20, 20, 20}},
		{func(p *api.Params) { p.MaxEff = 20 }, []uint64{20, 20, 10, 20}},
		{func(p *api.Params) { p.MaxEff = 40 }, []uint64{20, 30, 10, 30}},
		{func(p *api.Params) { p.Inc, p.MaxEff, p.Floor, p.Up, p.Cap = 15, 30, 15, 15, 40 }, []uint64{15, 30, 15, 30}},
		{func(p *api.Params) { p.Down = 0 }, []uint64{20, 30, 10, 20}},
		{func(p *api.Params) { p.Inc, p.MaxEff, p.Up = 3, 30, 3 }, []uint64{27, 30, 18, 30}},
	} {
		s := calls([]api.Member{active(27), active(40), member(api.StatusActive, 20, 10), member(api.StatusActive, 25, 30)}, all(4)...)
		s.Params.Rate, s.Motions = 0, []api.Motion{change(c.change)}
		everywhere(t, settle(s))
		after, r := ticks(t, settle(s))
		var effs []uint64
		for _, m := range after.Members {
			effs = append(effs, m.Eff)
		}
		if !slices.Equal(r.Done, []int{0}) || !slices.Equal(effs, c.want) {
			t.Fatalf("%v, want %v", effs, c.want)
		}
	}
}

// P24.2, phase 11: it goes by what phase 10 has left of a balance.
func TestEffBehindCap(t *testing.T) {
	for most, want := range map[uint64]uint64{30: 20, 31: 30, 40: 30} {
		s := calls([]api.Member{active(40), member(api.StatusActive, 29, 20)}, 0, 1)
		s.Params.Rate, s.Pool = 0, []api.Deposit{{Member: 1, Amount: 2}}
		s.Motions = []api.Motion{change(func(p *api.Params) { p.Cap = most })}
		after, _ := ticks(t, settle(s))
		if m := after.Members[1]; m.Balance != min(most, 31) || m.Eff != want {
			t.Fatalf("%d: %+v", most, m)
		}
	}
}

// P24.2, phase 11: of those who don't count nobody has an effective balance.
func TestEffOfNobody(t *testing.T) {
	s := calls([]api.Member{active(30), pending(30), pending(40), member(api.StatusOut, 0, 0), member(api.StatusLeft, 0, 0)}, 0)
	s.Params.Churn = 1
	after, _ := ticks(t, s)
	for _, i := range []int{2, 3, 4} {
		if after.Members[i].Eff != 0 {
			t.Fatalf("%+v", after.Members[i])
		}
	}
}

// P24.2, phase 12: the marks are the ring's first ones, at most MaxRing of them, and nobody is marked for the next epoch.
func TestTurn(t *testing.T) {
	for n := range api.MaxRing + 1 {
		s := calls([]api.Member{active(30), active(30)}, 1)
		for i := range n {
			s.Ring = append(s.Ring, votes(i, 127))
		}
		everywhere(t, s)
		after, _ := ticks(t, s)
		want := slices.Concat([][]byte{votes(1)}, s.Ring)
		want = want[:min(len(want), api.MaxRing)]
		if !reflect.DeepEqual(after.Ring, want) || !slices.Equal(after.Marks, votes()) {
			t.Fatalf("%v, %v", after.Ring, after.Marks)
		}
	}
}

// P24.2: the whole report, in each of its fields, and the whole state behind the tick.
func TestReport(t *testing.T) {
	s := changed(func(s *api.State) {
		s.Emergency, s.Calm = false, 1
		s.Marks = votes(0, 1, 5)
		s.Motions[2] = passed(about(api.MoveOn), 11)
		s.Motions[1].Due, s.Motions[1].Amount = 10, 50
		s.Motions[3] = passed(about(api.MoveSpend), 3)
		s.Motions[3].Amount = 5000
		s.Params.Absent, s.Params.Churn = 2500, 1
	})
	after, r := ticks(t, s)
	// Active 20 + 30 + 30 + 10: 90 by 9; the weights 20 · 1200, 30 · 1400, 30 · 1100. The last one loses 2, and has just Floor.
	want := api.Report{
		Epoch: 11, Mode: api.ModeNormal, Quorum: true, Present: 80, Active: 90,
		Minted: 10, Paid: 9, Kept: 1, Burned: 1, Fees: 1,
		Out: []int{6}, Left: []int{1}, Started: []int{7}, Done: []int{1, 2},
	}
	if !alikeReports(r, want) {
		t.Fatalf("%+v, want %+v", r, want)
	}
	behind := api.State{
		Params: s.Params, Most: s.Most, Genesis: s.Genesis, Minted: 70, Burned: 26, Treasury: 50 + 1 + 1 - 50,
		Epoch: 12, Emergency: true,
		Purses: []uint64{300, 4 + 30 + 50, 200},
		Members: []api.Member{
			stood(active(27), 6, 2),
			of(1, stood(member(api.StatusLeft, 0, 0), 5, 0)),
			of(2, pending(15)),
			of(1, stood(pending(40), 50, 0)),
			of(2, stood(member(api.StatusLeft, 0, 0), 100, 2)),
			stood(active(40), 0, 1),
			of(2, member(api.StatusOut, 0, 0)),
			active(11),
			of(2, pending(30)),
		},
		Entry: []int{2, 3, 8},
		Dues:  []api.Due{{Account: 1, At: 12, Amount: 40}, {Account: 0, At: 12, Amount: 5}, {Account: 2, At: 13, Amount: 10}, {Account: 1, At: 13, Amount: 40}, {Account: 0, At: 14, Amount: 30}},
		Marks: votes(), Ring: append([][]byte{votes(0, 1, 5)}, s.Ring...),
		Motions: plain(s).Motions,
	}
	for i, state := range []int{api.MotionOpen, api.MotionDone, api.MotionDone, api.MotionFailed} {
		behind.Motions[i].State = state
	}
	if !alike(after, behind) {
		t.Fatalf("\n%+v, want\n%+v", after, behind)
	}
}

// P24.2, example 4 of the whole: only the first one is there: in the third tick it leaks, and within fifteen ticks there is a quorum.
func TestLeak(t *testing.T) {
	s := begins(t, genesis())
	for i := 1; i <= 15; i++ {
		s.Marks = votes(0)
		var r api.Report
		s, r = ticks(t, s)
		if (r.Mode == api.ModeLeak) != (i >= 3 && !r.Quorum) {
			t.Fatalf("%d: %+v", i, r)
		}
		if r.Quorum {
			if s.Members[1].Status != api.StatusOut {
				t.Fatalf("%+v", s.Members[1])
			}
			return
		}
	}
	t.Fatalf("no quorum: %s", fmt.Sprint(s))
}
