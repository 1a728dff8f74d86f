package state

import (
	"iter"

	"bullion/api"
	"bullion/bits"
	"bullion/budget"
	"bullion/fine"
	"bullion/grain"
	"bullion/line"
	"bullion/member"
	"bullion/mode"
	"bullion/moot"
	"bullion/pool"
	"bullion/prize"
	"bullion/purse"
	"bullion/roll"
	"bullion/score"
	"bullion/supply"
)

// tick is a state that is worked on, phase by phase, and what is told of it.
// Of a state that fits no sum of a phase is ever refused, since all money together is at most MaxMoney: the errors of such sums are left where they are.
type tick struct {
	api.State
	ahead       api.Params // those ahead of the tick, which its own motions don't change
	entry, exit *line.Line // who waits, until the last phase
	told        api.Report
}

// Tick is a state behind a tick.
func Tick(s api.State) (api.State, api.Report, api.Errno) {
	if !Fits(s) {
		return api.State{}, api.Report{}, api.ErrState
	}
	if s.Epoch == api.MaxEpoch {
		return api.State{}, api.Report{}, api.ErrEpoch
	}
	t := began(s)
	t.run()
	return t.State, t.told, api.OK
}

// began is a tick of a state that fits, ahead of its phases.
func began(s api.State) *tick {
	t := &tick{State: Own(s), ahead: s.Params, told: api.Report{Epoch: s.Epoch}}
	t.entry, _ = line.New(s.Entry...)
	t.exit, _ = line.New(s.Exit...)
	return t
}

// run goes through all phases.
func (t *tick) run() {
	t.attend()
	t.stand()
	t.issue()
	t.punish()
	t.expel()
	t.leave()
	t.release()
	t.admit()
	t.decide()
	t.adapt()
	t.measure()
	t.turn()
}

// attend is phase 1: whether there is a quorum, and what follows from its want.
func (t *tick) attend() {
	t.told.Present, t.told.Active, _ = member.Stakes(t.Members, t.Marks)
	t.Calm, t.told.Quorum = mode.Step(t.ahead, t.Calm, t.told.Present, t.told.Active)
	t.told.Mode = mode.Of(t.ahead, t.Calm, t.Emergency)
}

// stand is phase 2: how long everybody was there, or away.
func (t *tick) stand() {
	for i := range t.counting() {
		m := &t.Members[i]
		m.Standing = score.After(t.ahead, m.Standing, t.there(i), t.told.Mode)
	}
}

// issue is phase 3: what is minted, and who gets it.
func (t *tick) issue() {
	minted := budget.Mint(t.ahead, t.told.Active, t.Genesis+t.Minted, t.Most, t.told.Mode)
	t.State, _ = supply.Mint(t.State, minted)
	var places []int
	var standings []api.Standing
	for i := range t.counting() {
		if t.there(i) {
			places, standings = append(places, i), append(standings, t.Members[i].Standing)
		}
	}
	parts, kept, _ := prize.Prizes(t.ahead, minted, standings)
	for at, i := range places {
		t.reward(i, parts[at])
	}
	t.told.Minted, t.told.Paid, t.told.Kept = minted, minted-kept, kept
}

// punish is phase 4: what those lose who are absent, and where it goes.
func (t *tick) punish() {
	for i := range t.counting() {
		if t.there(i) {
			continue
		}
		m := &t.Members[i]
		after, burned, fees := fine.Take(t.ahead, m.Standing, t.told.Mode)
		m.Standing = after
		t.Treasury += burned + fees
		t.told.Burned += burned
		t.told.Fees += fees
	}
	t.State, _ = supply.Burn(t.State, t.told.Burned)
}

// expel is phase 5, and the end of phase 10: who has too little is put out.
func (t *tick) expel() {
	for i := range t.counting() {
		if t.Members[i].Balance <= t.Params.Floor {
			t.putOut(i)
		}
	}
}

// leave is phase 6: the first ones that wait to leave do.
func (t *tick) leave() {
	t.told.Left = t.exit.Pop(t.ahead.Churn)
	for _, i := range t.told.Left {
		t.end(i, api.StatusLeft)
	}
}

// release is phase 7: what is due by now is paid.
func (t *tick) release() {
	ripe, rest := pool.Ripe(t.Dues, t.Epoch)
	t.Dues = rest
	for _, d := range ripe {
		t.pay(d.Account, d.Amount)
	}
}

// admit is phase 8: deposits are credited, and the first ones that wait to be active are.
func (t *tick) admit() {
	if !t.told.Quorum {
		return
	}
	deposits := t.Pool
	t.Pool = nil
	for _, d := range deposits {
		t.credit(d)
	}
	for _, i := range t.entry.Pop(t.ahead.Churn) {
		t.start(i)
	}
}

// decide is phase 9: motions are closed, and done.
func (t *tick) decide() {
	t.Motions = moot.Close(t.ahead, t.Motions, t.Members, t.Epoch)
	for _, i := range moot.Ripe(t.Motions, t.Epoch, t.told.Quorum) {
		done := t.enact(t.Motions[i])
		t.Motions, _ = moot.Finish(t.Motions, i, done)
		if done {
			t.told.Done = append(t.told.Done, i)
		}
	}
}

// adapt is phase 10: members follow parameters that were changed.
func (t *tick) adapt() {
	if t.Params == t.ahead {
		return
	}
	for i := range t.Members {
		m := &t.Members[i]
		kept, above := grain.Clamp(t.Params, m.Balance)
		m.Balance = kept
		m.Standing = score.Trim(t.Params, m.Standing)
		t.pay(m.Owner, above)
	}
	t.expel()
}

// measure is phase 11: effective balances follow balances.
func (t *tick) measure() {
	for i := range t.counting() {
		m := &t.Members[i]
		m.Eff = grain.Next(t.Params, m.Eff, m.Balance)
		if !grain.Fits(t.Params, m.Eff, m.Balance) {
			m.Eff = grain.Whole(t.Params, m.Balance)
		}
	}
}

// turn is phase 12: the epoch is over.
func (t *tick) turn() {
	t.Entry, t.Exit = t.entry.List(), t.exit.List()
	t.Ring, t.Marks = roll.Turn(t.Ring, t.Marks), roll.Empty()
	t.Epoch++
}

// counting tells the places of those that count, in order.
func (t *tick) counting() iter.Seq[int] {
	return func(yield func(int) bool) {
		for i := range t.Members {
			if member.Counts(t.Members[i]) && !yield(i) {
				return
			}
		}
	}
}

// there says whether a member is present.
func (t *tick) there(i int) bool { return bits.Get(t.Marks, i) }

// pay pays an account.
func (t *tick) pay(account int, amount uint64) {
	t.Purses, _ = purse.Pay(t.Purses, account, amount)
}

// reward pays a member its prize out of the treasury, and its owner what of that is too much.
func (t *tick) reward(i int, part uint64) {
	m := &t.Members[i]
	after, above := prize.Pay(t.ahead, m.Standing, part)
	m.Standing = after
	t.Treasury -= part
	t.pay(m.Owner, above)
}

// putOut puts a member out.
func (t *tick) putOut(i int) {
	t.end(i, api.StatusOut)
	t.exit.Drop(i)
	t.told.Out = append(t.told.Out, i)
}

// end takes all that a member has, which is due to its owner.
func (t *tick) end(i, status int) {
	m, had := member.End(t.Members[i], status)
	t.Members[i] = m
	t.Dues, _ = pool.Owe(t.Dues, api.Due{Account: m.Owner, At: t.Epoch + t.ahead.Wait, Amount: had})
}

// credit credits a deposit to its member, or gives it back, if there is no room for a new one.
func (t *tick) credit(d api.Deposit) {
	i := d.Member
	if d.New {
		i = len(t.Members)
		if i >= api.MaxMembers {
			t.pay(d.Account, d.Amount)
			return
		}
		t.Members = append(t.Members, api.Member{Owner: d.Account, Status: api.StatusOut})
	}
	m, above := member.Credit(t.Params, t.Members[i], d.Amount)
	t.Members[i] = m
	t.pay(d.Account, above)
	if m.Status == api.StatusPending {
		// Who waits already is refused, and stays where it is.
		t.entry.Push(i)
	}
}

// start lets a member that waited be active, or puts it out.
func (t *tick) start(i int) {
	m, ok := member.Start(t.Params, t.Members[i])
	if !ok {
		t.putOut(i)
		return
	}
	t.Members[i] = m
	t.told.Started = append(t.told.Started, i)
}

// enact does what a motion is about, and says whether it could.
func (t *tick) enact(m api.Motion) bool {
	switch m.What {
	case api.MoveParams:
		t.Params = m.Params
	case api.MoveSpend:
		return t.spend(m.To, m.Amount)
	default:
		t.Emergency = m.What == api.MoveOn
	}
	return true
}

// spend pays an account out of the treasury, if that has so much.
func (t *tick) spend(to int, amount uint64) bool {
	if amount > t.Treasury {
		return false
	}
	t.Treasury -= amount
	t.pay(to, amount)
	return true
}
