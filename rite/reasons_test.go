package rite_test

import (
	"testing"

	"bullion/api"
)

// fault is one thing that is wrong, and its error.
type fault struct {
	e    api.Errno
	make func(s *api.State, d *api.Deed)
}

// The faults that deeds of several kinds have.
func noAccount() fault {
	return fault{api.ErrAccount, func(s *api.State, d *api.Deed) { d.Account = len(s.Purses) }}
}

func noTo() fault {
	return fault{api.ErrAccount, func(s *api.State, d *api.Deed) { d.To = len(s.Purses) }}
}

func noMember() fault {
	return fault{api.ErrMember, func(s *api.State, d *api.Deed) { d.Member = len(s.Members) }}
}

func noOwner() fault {
	return fault{api.ErrOwner, func(s *api.State, d *api.Deed) { s.Members[d.Member].Owner = (d.Account + 1) % 3 }}
}

// poor takes what a deed needs out of all purses but a coin less.
func poor(amount uint64) fault {
	return fault{api.ErrFunds, func(s *api.State, d *api.Deed) { s.Purses = []uint64{amount - 1, amount - 1, amount - 1} }}
}

func noRoom() fault {
	return fault{api.ErrFull, func(s *api.State, d *api.Deed) { s.Pool = waiting(api.MaxLine) }}
}

func status(to int) fault {
	return fault{api.ErrStatus, func(s *api.State, d *api.Deed) {
		m := somebody(to)
		m.Owner = s.Members[d.Member].Owner
		s.Members[d.Member] = m
		*s = queued(*s)
	}}
}

// theirs are the faults of a deed, in the order of the chapter.
func theirs(d api.Deed) []fault {
	switch d.Kind {
	case api.DeedSend:
		return []fault{noAccount(), noTo(), poor(d.Amount)}
	case api.DeedStake:
		floor := simple().Floor
		small := fault{api.ErrSmall, func(s *api.State, d *api.Deed) { d.Amount = floor }}
		// So poor that not even what is too small is there.
		return []fault{noAccount(), small, poor(floor), noRoom()}
	case api.DeedTop:
		return []fault{noAccount(), noMember(), noOwner(), poor(d.Amount), noRoom()}
	case api.DeedLeave:
		return []fault{noAccount(), noMember(), noOwner(), status(api.StatusLeft)}
	case api.DeedMark:
		epoch := fault{api.ErrEpoch, func(s *api.State, d *api.Deed) { d.Epoch-- }}
		none := fault{api.ErrBits, func(s *api.State, d *api.Deed) { d.Bits = make([]byte, 17) }}
		return []fault{epoch, none}
	case api.DeedMove:
		list := []fault{noAccount(), noTo(), poor(simple().Bond), {api.ErrFull, func(s *api.State, d *api.Deed) { s.Motions = moved(api.MaxMotions, api.MotionPassed) }}}
		if d.What != api.MoveSpend {
			list = append(list[:1], list[2:]...)
		}
		return list
	default:
		none := fault{api.ErrMotion, func(s *api.State, d *api.Deed) { d.Motion = len(s.Motions) }}
		closed := fault{api.ErrClosed, func(s *api.State, d *api.Deed) { s.Motions[0].State = api.MotionFailed }}
		twice := fault{api.ErrTwice, func(s *api.State, d *api.Deed) { s.Motions[0].No = votes(d.Member) }}
		return []fault{noAccount(), noMember(), noOwner(), status(api.StatusOut), none, closed, twice}
	}
}

// faults are all faults of a deed, those of all deeds ahead.
func faults(d api.Deed) []fault {
	unfit := fault{api.ErrState, func(s *api.State, d *api.Deed) { s.Treasury++ }}
	wrong := fault{api.ErrDeed, func(s *api.State, d *api.Deed) {
		if d.Kind == api.DeedMark {
			d.Amount = 1
		} else {
			d.Epoch = 1
		}
	}}
	return append([]fault{unfit, wrong}, theirs(d)...)
}

// candidates are deeds that are done to a full state, several of each kind.
func candidates() []api.Deed {
	return append(deeds(), leave(0, 0), more(0, 5, 300), more(2, 4, 1), stake(0, 300), send(1, 1, 100), send(0, 1, 300), mark(11, field(8, all(8)...)), vote(2, 6, 0, false))
}

// P25.1: of whatever is wrong at once the first one in the chapter's order is answered; of nothing, nothing. Every one, every two, and so on up to all.
func TestReasons(t *testing.T) {
	for _, d := range candidates() {
		list := faults(d)
		for set := range 1 << len(list) {
			s, asked := full(), d
			want := api.OK
			// The last ones are made first: what is made ahead in the order may take away what they were about, never the other way.
			for i := len(list) - 1; i > 0; i-- {
				if set>>i&1 == 1 {
					list[i].make(&s, &asked)
					want = list[i].e
				}
			}
			s = settle(s)
			if set&1 == 1 {
				list[0].make(&s, &asked)
				want = list[0].e
			}
			if _, e := done(t, s, asked); e != want {
				t.Fatalf("%b of %+v: %d, want %d, in %+v", set, asked, e, want, s)
			}
		}
	}
}

// P25.1: each fault alone is answered with its own error.
func TestFaults(t *testing.T) {
	for _, d := range candidates() {
		for i, x := range faults(d)[2:] {
			s, asked := full(), d
			x.make(&s, &asked)
			if _, e := done(t, settle(s), asked); e != x.e {
				t.Fatalf("%d of %+v: %d, want %d", i, asked, e, x.e)
			}
		}
	}
}
