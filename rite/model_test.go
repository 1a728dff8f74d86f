package rite_test

import (
	"math/big"
	"slices"

	"bullion/api"
	"bullion/block"
	"bullion/deed"
	"bullion/state"
)

// whole are numbers together, as a whole number.
func whole(list ...uint64) *big.Int {
	sum := new(big.Int)
	for _, n := range list {
		sum.Add(sum, new(big.Int).SetUint64(n))
	}
	return sum
}

// bit says whether a bit is 1, by what the bytes are worth together.
func bit(b []byte, i int) bool {
	b = slices.Clone(b)
	slices.Reverse(b)
	return new(big.Int).SetBytes(b).Bit(i) == 1
}

// counts says whether a member counts.
func counts(m api.Member) bool {
	return m.Status == api.StatusActive || m.Status == api.StatusLeaving
}

// partsOf are all amounts of a state.
func partsOf(s api.State) []uint64 {
	list := append([]uint64{s.Treasury}, s.Purses...)
	for _, m := range s.Members {
		list = append(list, m.Balance)
	}
	for _, d := range s.Pool {
		list = append(list, d.Amount)
	}
	for _, d := range s.Dues {
		list = append(list, d.Amount)
	}
	return list
}

// accounted says whether all money is accounted for.
func accounted(s api.State) bool {
	came := whole(s.Genesis, s.Minted)
	there := append(partsOf(s), s.Burned)
	return whole(there...).Cmp(came) == 0 && came.Cmp(whole(s.Most)) <= 0 && s.Most <= api.MaxMoney
}

// owned says whether a deed is about a member of its account's.
func owned(kind int) bool {
	return kind == api.DeedTop || kind == api.DeedLeave || kind == api.DeedVote
}

// reason is an error, and when it is answered: where none ahead of it is.
type reason struct {
	e    api.Errno
	when func() bool
}

// accountsOf are the reasons of what a deed names, in the chapter's order.
func accountsOf(s api.State, d api.Deed) []reason {
	spends := d.Kind == api.DeedSend || d.Kind == api.DeedMove && d.What == api.MoveSpend
	return []reason{
		{api.ErrAccount, func() bool { return d.Kind != api.DeedMark && d.Account >= len(s.Purses) }},
		{api.ErrAccount, func() bool { return spends && d.To >= len(s.Purses) }},
		{api.ErrMember, func() bool { return owned(d.Kind) && d.Member >= len(s.Members) }},
		{api.ErrOwner, func() bool { return owned(d.Kind) && s.Members[d.Member].Owner != d.Account }},
	}
}

// reasonsOf are the reasons of a deed's kind.
func reasonsOf(s api.State, d api.Deed) []reason {
	short := func() bool { return s.Purses[d.Account] < d.Amount }
	full := func() bool { return len(s.Pool) >= api.MaxLine }
	switch d.Kind {
	case api.DeedSend:
		return []reason{{api.ErrFunds, short}}
	case api.DeedStake:
		return []reason{{api.ErrSmall, func() bool { return d.Amount <= s.Params.Floor }}, {api.ErrFunds, short}, {api.ErrFull, full}}
	case api.DeedTop:
		return []reason{{api.ErrFunds, short}, {api.ErrFull, full}}
	case api.DeedLeave:
		return []reason{{api.ErrStatus, func() bool { return s.Members[d.Member].Status != api.StatusActive }}}
	case api.DeedMark:
		return []reason{
			{api.ErrEpoch, func() bool { return d.Epoch != s.Epoch }},
			{api.ErrBits, func() bool { return !fieldOf(d.Bits, len(s.Members)) }},
		}
	case api.DeedMove:
		return []reason{
			{api.ErrFunds, func() bool { return s.Purses[d.Account] < s.Params.Bond }},
			{api.ErrFull, func() bool { return placeOf(s.Motions) >= api.MaxMotions }},
		}
	default:
		return []reason{
			{api.ErrStatus, func() bool { return !counts(s.Members[d.Member]) }},
			{api.ErrMotion, func() bool { return d.Motion >= len(s.Motions) }},
			{api.ErrClosed, func() bool { return s.Motions[d.Motion].State != api.MotionOpen }},
			{api.ErrTwice, func() bool { m := s.Motions[d.Motion]; return bit(m.Yes, d.Member) || bit(m.No, d.Member) }},
		}
	}
}

// fieldOf says whether bytes are a field of so many bits.
func fieldOf(b []byte, n int) bool {
	if len(b) != (n+7)/8 {
		return false
	}
	for i := n; i < 8*len(b); i++ {
		if bit(b, i) {
			return false
		}
	}
	return true
}

// placeOf is the place for a motion more.
func placeOf(list []api.Motion) int {
	for i, m := range list {
		if m.State == api.MotionDone || m.State == api.MotionFailed {
			return i
		}
	}
	return len(list)
}

// doOf is a state behind a deed, by the chapter's words.
func doOf(s api.State, d api.Deed) (api.State, api.Errno) {
	if !state.Fits(s) {
		return api.State{}, api.ErrState
	}
	if !deed.Right(d) {
		return api.State{}, api.ErrDeed
	}
	for _, why := range append(accountsOf(s, d), reasonsOf(s, d)...) {
		if why.when() {
			return api.State{}, why.e
		}
	}
	s = plain(s)
	change(&s, d)
	return s, api.OK
}

// change does a deed that nothing is against.
func change(s *api.State, d api.Deed) {
	switch d.Kind {
	case api.DeedSend:
		s.Purses[d.Account] -= d.Amount
		s.Purses[d.To] += d.Amount
	case api.DeedStake, api.DeedTop:
		s.Purses[d.Account] -= d.Amount
		s.Pool = append(s.Pool, api.Deposit{Account: d.Account, Member: d.Member, Amount: d.Amount, New: d.Kind == api.DeedStake})
	case api.DeedLeave:
		s.Members[d.Member].Status = api.StatusLeaving
		s.Exit = append(s.Exit, d.Member)
	case api.DeedMark:
		for i, b := range d.Bits {
			s.Marks[i] |= b
		}
	case api.DeedMove:
		s.Purses[d.Account] -= s.Params.Bond
		s.Treasury += s.Params.Bond
		i := placeOf(s.Motions)
		if i == len(s.Motions) {
			s.Motions = append(s.Motions, api.Motion{})
		}
		s.Motions[i] = api.Motion{
			Account: d.Account, What: d.What, Params: d.Params, To: d.To, Amount: d.Amount,
			Ends: s.Epoch + s.Params.Poll, State: api.MotionOpen, Yes: votes(), No: votes(),
		}
	case api.DeedVote:
		side := s.Motions[d.Motion].No
		if d.Yes {
			side = s.Motions[d.Motion].Yes
		}
		side[d.Member/8] |= 1 << (d.Member % 8)
	}
}

// blockOf is what is behind a block's bytes, by the chapter's words.
func blockOf(s api.State, b []byte) answer {
	if !state.Fits(s) {
		return answer{e: api.ErrState}
	}
	deeds, at, e := block.Decode(b)
	if e != api.OK {
		return answer{at: at, e: e}
	}
	for i, d := range deeds {
		if s, e = doOf(s, d); e != api.OK {
			return answer{at: i, e: e}
		}
	}
	return answer{s: plain(s)}
}
