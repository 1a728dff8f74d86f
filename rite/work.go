package rite

import (
	"bullion/api"
	"bullion/member"
	"bullion/money"
	"bullion/moot"
	"bullion/pool"
	"bullion/purse"
	"bullion/roll"
	"bullion/state"
)

// work is a state that deeds are done to, in memory of its own.
// It fits until a deed is refused, and then nobody sees it any more: what a deed has changed ahead of its error needs no undoing.
type work struct {
	api.State
}

// begun is the work on a state.
func begun(s api.State) *work { return &work{State: state.Own(s)} }

// do does a deed that is right, or tells why not.
func (w *work) do(d api.Deed) api.Errno {
	if e := w.known(d); e != api.OK {
		return e
	}
	switch d.Kind {
	case api.DeedSend:
		return w.send(d)
	case api.DeedStake:
		return w.stake(d)
	case api.DeedTop:
		return w.top(d)
	case api.DeedLeave:
		return w.leave(d)
	case api.DeedMark:
		return w.mark(d)
	case api.DeedMove:
		return w.move(d)
	default:
		return w.vote(d)
	}
}

// known says whether the accounts of a deed are there, and its member, if it has one, and is the account's.
func (w *work) known(d api.Deed) api.Errno {
	// A deed that doesn't name an account has 0 there, which is a purse's place in every state that fits.
	for _, account := range []int{d.Account, d.To} {
		if _, e := purse.Has(w.Purses, account); e != api.OK {
			return e
		}
	}
	switch d.Kind {
	case api.DeedTop, api.DeedLeave, api.DeedVote:
		return w.owned(d)
	}
	return api.OK
}

// owned says whether a deed's member is there, and its account's.
func (w *work) owned(d api.Deed) api.Errno {
	if d.Member >= len(w.Members) {
		return api.ErrMember
	}
	if w.Members[d.Member].Owner != d.Account {
		return api.ErrOwner
	}
	return api.OK
}

// send moves money from an account to another one.
func (w *work) send(d api.Deed) (e api.Errno) {
	w.Purses, e = purse.Move(w.Purses, d.Account, d.To, d.Amount)
	return e
}

// stake lets a deposit for a new member wait.
func (w *work) stake(d api.Deed) api.Errno {
	if d.Amount <= w.Params.Floor {
		return api.ErrSmall
	}
	return w.deposit(api.Deposit{Account: d.Account, Amount: d.Amount, New: true})
}

// top lets a deposit for a member wait.
func (w *work) top(d api.Deed) api.Errno {
	return w.deposit(api.Deposit{Account: d.Account, Member: d.Member, Amount: d.Amount})
}

// leave lets a member wait to leave.
func (w *work) leave(d api.Deed) api.Errno {
	m := &w.Members[d.Member]
	if m.Status != api.StatusActive {
		return api.ErrStatus
	}
	m.Status = api.StatusLeaving
	w.Exit = append(w.Exit, d.Member)
	return api.OK
}

// mark marks who is there in this epoch.
func (w *work) mark(d api.Deed) (e api.Errno) {
	if d.Epoch != w.Epoch {
		return api.ErrEpoch
	}
	w.Marks, e = roll.Mark(w.Marks, d.Bits, len(w.Members))
	return e
}

// move opens a motion, whose bond goes to the treasury.
func (w *work) move(d api.Deed) api.Errno {
	if e := w.draw(d.Account, w.Params.Bond); e != api.OK {
		return e
	}
	motions, _, e := moot.Open(w.Params, w.Motions, d, w.Epoch)
	if e != api.OK {
		return e
	}
	w.Motions = motions
	w.Treasury, e = money.Add(w.Treasury, w.Params.Bond)
	return e
}

// vote adds a member's vote to a motion.
func (w *work) vote(d api.Deed) (e api.Errno) {
	if !member.Counts(w.Members[d.Member]) {
		return api.ErrStatus
	}
	w.Motions, e = moot.Vote(w.Motions, d.Motion, d.Member, d.Yes)
	return e
}

// deposit takes a deposit out of its account's purse, and lets it wait as the last one.
func (w *work) deposit(d api.Deposit) (e api.Errno) {
	if e := w.draw(d.Account, d.Amount); e != api.OK {
		return e
	}
	w.Pool, e = pool.Add(w.Pool, d)
	return e
}

// draw takes money out of a purse.
func (w *work) draw(account int, amount uint64) (e api.Errno) {
	w.Purses, e = purse.Draw(w.Purses, account, amount)
	return e
}
