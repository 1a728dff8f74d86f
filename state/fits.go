package state

import (
	"slices"

	"bullion/api"
	"bullion/bits"
	"bullion/line"
	"bullion/member"
	"bullion/moot"
	"bullion/param"
	"bullion/pool"
	"bullion/roll"
	"bullion/supply"
)

// mostTime is the last epoch in which something may be due.
const mostTime = 1<<31 - 1

// Fits says whether a state is right.
func Fits(s api.State) bool {
	return sized(s) && timed(s) &&
		param.Check(s.Params) == api.OK && supply.Holds(s) &&
		!slices.ContainsFunc(s.Purses, tooMuch) &&
		membersFit(s) &&
		waiting(s.Members, s.Entry, api.StatusPending) && waiting(s.Members, s.Exit, api.StatusLeaving) &&
		poolFits(s) && duesFit(s) && motionsFit(s) && marksFit(s)
}

// sized says whether there are neither too few nor too many of anything.
func sized(s api.State) bool {
	return within(len(s.Purses), 1, api.MaxAccounts) &&
		len(s.Members) <= api.MaxMembers &&
		len(s.Pool) <= api.MaxLine &&
		len(s.Motions) <= api.MaxMotions
}

// timed says whether Epoch and Calm may be.
func timed(s api.State) bool {
	return within(s.Epoch, 0, api.MaxEpoch) && within(s.Calm, 0, api.MaxEpoch)
}

// tooMuch says whether something is more than a purse may have.
func tooMuch(amount uint64) bool { return amount > api.MaxMoney }

// membersFit says whether all members are right.
func membersFit(s api.State) bool {
	for _, m := range s.Members {
		if !member.Fits(s.Params, m) || !among(m.Owner, s.Purses) {
			return false
		}
	}
	return true
}

// waiting says whether places are just those of the members of a status, each once.
func waiting(members []api.Member, places []int, status int) bool {
	// More than there are members are never right, and need no line.
	if len(places) > len(members) {
		return false
	}
	queue, e := line.New(places...)
	if e != api.OK {
		return false
	}
	found := 0
	for i, m := range members {
		_, waits := queue.Place(i)
		if waits != (m.Status == status) {
			return false
		}
		if waits {
			found++
		}
	}
	// All others in the line would be nobody's places.
	return found == queue.Len()
}

// poolFits says whether all deposits are right.
func poolFits(s api.State) bool {
	for _, d := range s.Pool {
		if _, e := pool.Add(nil, d); e != api.OK || !among(d.Account, s.Purses) {
			return false
		}
		if !d.New && !among(d.Member, s.Members) {
			return false
		}
	}
	return true
}

// duesFit says whether all dues are right, one behind the other.
func duesFit(s api.State) bool {
	at := 0
	// Since At never falls, no two of an account are for the same tick just if each is for a later one than that ahead of it.
	var next [api.MaxAccounts]int
	for _, d := range s.Dues {
		if _, e := pool.Owe(nil, d); e != api.OK || d.Amount == 0 || !among(d.Account, s.Purses) {
			return false
		}
		if !within(d.At, max(at, next[d.Account]), mostTime) {
			return false
		}
		at, next[d.Account] = d.At, d.At+1
	}
	return true
}

// motionsFit says whether all motions are right.
func motionsFit(s api.State) bool {
	for _, m := range s.Motions {
		if !moot.Fits(m) || !among(m.Account, s.Purses) || !among(m.To, s.Purses) {
			return false
		}
	}
	return true
}

// marksFit says whether all marks are right, and those of this epoch of members.
func marksFit(s api.State) bool {
	if roll.Check(s.Ring, s.Marks) != api.OK {
		return false
	}
	for i := len(s.Members); i < api.MaxMembers; i++ {
		if bits.Get(s.Marks, i) {
			return false
		}
	}
	return true
}

// among says whether a number is a place of a list.
func among[T any](i int, list []T) bool { return i >= 0 && i < len(list) }

// within says whether a number is from its least to its most.
func within(n, least, most int) bool { return n >= least && n <= most }
