package rite_test

import (
	"math/rand"
	"slices"
	"testing"

	"bullion/api"
	"bullion/block"
	"bullion/param"
	"bullion/rite"
	"bullion/state"
)

// scaled are parameters with these numbers for balances, whose leak is over at once.
func scaled(inc, maxEff, floor, most, up, down uint64) api.Params {
	return with(func(p *api.Params) {
		p.Inc, p.MaxEff, p.Floor, p.Cap, p.Up, p.Down = inc, maxEff, floor, most, up, down
		p.Bias, p.BiasEm, p.Quot, p.QuotEm, p.ScoreCap = api.MaxBias, api.MaxBias, 1, 1, api.MaxScore
	})
}

// right are parameters of every sort, all of which are right.
func right(t *testing.T) []api.Params {
	t.Helper()
	most, inc := uint64(api.MaxStake), uint64(api.MaxInc)
	list := []api.Params{
		simple(), simple(), simple(),
		with(func(p *api.Params) { p.Bond, p.Churn, p.Poll, p.Enact = 0, 1, 1, 0 }),
		with(func(p *api.Params) { p.Bond, p.Delay, p.Wait, p.Quorum = 25, 0, 0, 0 }),
		with(func(p *api.Params) { p.Floor, p.Cap, p.ScoreCap, p.Bond = 30, 90, 3000, 100 }),
		with(func(p *api.Params) { p.Absent, p.Burn, p.Churn, p.Poll = api.MaxRate, api.MaxRate, api.MaxChurn, 5 }),
		scaled(1, 1, 1, 2, 1, 0),
		scaled(7, 70, 9, 1000, 8, 3),
		scaled(inc, most, inc, most, most, most),
	}
	for _, p := range list {
		if param.Check(p) != api.OK {
			t.Fatalf("it isn't right: %+v", p)
		}
	}
	return list
}

// life is a state that goes through many deeds, blocks and ticks.
type life struct {
	dice   *rand.Rand
	params []api.Params
	s      api.State
	seen   map[[2]int]int // of each kind and error how many there were
}

// maybe says something once in so many times.
func (x *life) maybe(n int) bool { return x.dice.Intn(n) == 0 }

// upTo is a number from 0 to most.
func (x *life) upTo(most uint64) uint64 { return x.dice.Uint64() % (most + 1) }

// pick is one of a list.
func pick[T any](x *life, list []T) T { return list[x.dice.Intn(len(list))] }

// place is one of so many places, or now and then one that there isn't.
func (x *life) place(there, most int) int {
	if there == 0 || x.maybe(15) {
		return x.dice.Intn(most)
	}
	return x.dice.Intn(there)
}

// born is a new state of members of every status, which fits.
func (x *life) born(t *testing.T) {
	p := pick(x, x.params)
	x.s = api.State{Params: p, Most: api.MaxMoney, Marks: votes(), Epoch: x.dice.Intn(100), Calm: x.dice.Intn(4), Emergency: x.maybe(5)}
	x.s.Purses = make([]uint64, pick(x, []int{1, 2, 3, 5, api.MaxAccounts}))
	for i := range x.s.Purses {
		x.s.Purses[i] = x.upTo(10 * p.Cap)
	}
	for range x.dice.Intn(pick(x, []int{2, 6, 20, api.MaxMembers + 1})) {
		m := api.Member{Owner: x.dice.Intn(len(x.s.Purses)), Status: pick(x, append(statuses(), 2, 2, 2, 2))}
		m.Score, m.Streak = x.upTo(p.ScoreCap), x.dice.Intn(p.Streak+1)
		switch {
		case counts(m):
			m.Balance = p.Floor + 1 + x.upTo(p.Cap-p.Floor-1)
			m.Eff = min(m.Balance/p.Inc*p.Inc, p.MaxEff)
		case m.Status == api.StatusPending:
			m.Balance = 1 + x.upTo(p.Cap-1)
		}
		x.s.Members = append(x.s.Members, m)
	}
	if x.maybe(4) {
		x.s.Pool = slices.Repeat([]api.Deposit{{Amount: 3, New: true}}, api.MaxLine-x.dice.Intn(3))
	}
	if x.maybe(4) {
		x.s.Motions = moved(api.MaxMotions-x.dice.Intn(3), api.MotionPassed)
	} else if x.maybe(2) {
		x.s.Motions = moved(1+x.dice.Intn(3), api.MotionOpen)
		x.dice.Read(x.s.Motions[0].Yes)
	}
	x.s.Treasury, x.s.Burned = x.upTo(5*p.Cap), x.upTo(50)
	x.s = settle(queued(x.s))
	if !state.Fits(x.s) {
		t.Fatalf("%+v", x.s)
	}
}

// amount is of about what a purse has, or a member.
func (x *life) amount(account int) uint64 {
	p, has := x.s.Params, uint64(50)
	if account < len(x.s.Purses) {
		has = x.s.Purses[account]
	}
	return max(1, pick(x, []uint64{1, 2, p.Floor, p.Floor + 1, p.Floor + 2, p.Cap, p.Cap + 1, has, has + 1, has / 2, has / 3, 1 + x.upTo(has)}))
}

// deed is one of any kind, most of which might be done.
func (x *life) deed() api.Deed {
	account := x.place(len(x.s.Purses), api.MaxAccounts)
	member := x.place(len(x.s.Members), api.MaxMembers)
	if member < len(x.s.Members) && !x.maybe(8) {
		account = x.s.Members[member].Owner
	}
	switch 1 + x.dice.Intn(7) {
	case api.DeedSend:
		return send(account, x.place(len(x.s.Purses), api.MaxAccounts), x.amount(account))
	case api.DeedStake:
		return stake(account, x.amount(account))
	case api.DeedTop:
		return more(account, member, x.amount(account))
	case api.DeedLeave:
		return leave(account, member)
	case api.DeedMark:
		return x.mark()
	case api.DeedMove:
		return x.move(account)
	default:
		return vote(account, member, x.place(len(x.s.Motions), api.MaxMotions), x.maybe(2))
	}
}

// mark marks some of the members, or now and then somebody who isn't there, or in another epoch.
func (x *life) mark() api.Deed {
	d := mark(x.s.Epoch, make([]byte, (len(x.s.Members)+7)/8))
	of := x.dice.Intn(11)
	for i := range 8 * len(d.Bits) {
		if (i < len(x.s.Members) || x.maybe(40)) && x.dice.Intn(10) < of {
			d.Bits[i/8] |= 1 << (i % 8)
		}
	}
	if x.maybe(10) {
		d.Epoch++
	}
	if x.maybe(10) {
		d.Bits = append(d.Bits, 0)
	}
	return d
}

// move moves something.
func (x *life) move(account int) api.Deed {
	d := move(account, pick(x, whats()))
	if d.What == api.MoveParams {
		d.Params = pick(x, x.params)
	}
	if d.What == api.MoveSpend {
		d.To, d.Amount = x.place(len(x.s.Purses), api.MaxAccounts), 1+x.upTo(2*x.s.Treasury)
	}
	return d
}

// one does a deed, alone.
func (x *life) one(t *testing.T) {
	d := x.deed()
	after, e := done(t, x.s, d)
	x.seen[[2]int{d.Kind, int(e)}]++
	if e == api.OK {
		x.s = after
	}
}

// many does a block, whose deeds were made one by one, for what those ahead of them leave: most of them are done.
func (x *life) many(t *testing.T) {
	was := x.s
	var list []api.Deed
	for range x.dice.Intn(pick(x, []int{3, 8, api.MaxDeeds + 1})) {
		d := x.deed()
		after, e := rite.Do(x.s, d)
		if e == api.OK {
			x.s = after
		}
		if e == api.OK || x.maybe(30) {
			list = append(list, d)
		}
	}
	x.s = was
	b := packed(t, list...)
	if x.maybe(10) {
		b[x.dice.Intn(len(b))] = byte(x.dice.Intn(256))
	}
	if x.maybe(10) {
		b = b[:x.dice.Intn(len(b))]
	}
	got := blocks(t, x.s, b)
	x.seen[[2]int{0, int(got.e)}]++
	if got.e == api.OK {
		x.s = got.s
	}
}

// tick is a tick, with nearly all of the members marked ahead of it, or as it comes.
func (x *life) tick(t *testing.T) {
	if !x.maybe(4) {
		n := len(x.s.Members)
		x.s = does(t, x.s, mark(x.s.Epoch, field(n, all(n)...)))
	}
	after, _, e := state.Tick(x.s)
	if e != api.OK || !state.Fits(after) {
		t.Fatalf("%d of %+v", e, x.s)
	}
	x.s = after
}

// P25.3: many deeds and blocks, one behind the other, with ticks in between, of states of every sort: each is as the chapter's words ask, and what fits, fits behind it, with all money accounted for.
func TestLife(t *testing.T) {
	seen := map[[2]int]int{}
	for seed := range int64(100) {
		x := &life{dice: rand.New(rand.NewSource(seed)), params: right(t), seen: seen}
		x.born(t)
		for range 60 {
			switch x.dice.Intn(8) {
			case 0:
				x.many(t)
			case 1:
				x.tick(t)
			default:
				x.one(t)
			}
			if x.maybe(60) {
				x.born(t)
			}
		}
	}
	wanted(t, seen)
}

// wanted asks that the dice left nothing out: each error of each kind, and none.
func wanted(t *testing.T, seen map[[2]int]int) {
	t.Helper()
	for kind, list := range map[int][]api.Errno{
		0:             {api.OK, api.ErrFunds, api.ErrEnd, api.ErrDeed},
		api.DeedSend:  {api.OK, api.ErrAccount, api.ErrFunds},
		api.DeedStake: {api.OK, api.ErrAccount, api.ErrSmall, api.ErrFunds, api.ErrFull},
		api.DeedTop:   {api.OK, api.ErrAccount, api.ErrMember, api.ErrOwner, api.ErrFunds, api.ErrFull},
		api.DeedLeave: {api.OK, api.ErrAccount, api.ErrMember, api.ErrOwner, api.ErrStatus},
		api.DeedMark:  {api.OK, api.ErrEpoch, api.ErrBits},
		api.DeedMove:  {api.OK, api.ErrAccount, api.ErrFunds, api.ErrFull},
		api.DeedVote:  {api.OK, api.ErrAccount, api.ErrMember, api.ErrOwner, api.ErrStatus, api.ErrMotion, api.ErrClosed, api.ErrTwice},
	} {
		for _, e := range list {
			if seen[[2]int{kind, int(e)}] < 3 {
				t.Errorf("only %d times: %d of kind %d", seen[[2]int{kind, int(e)}], e, kind)
			}
		}
	}
}

// P25.3: bytes that are any at all are a block or none, and what fits, fits behind them.
func TestAnyBytes(t *testing.T) {
	dice := rand.New(rand.NewSource(7))
	done := 0
	for range 3000 {
		b := make([]byte, dice.Intn(12))
		for i := range b {
			b[i] = byte(dice.Intn(8))
		}
		if blocks(t, full(), b).e == api.OK {
			done++
		}
	}
	if done < 20 {
		t.Fatalf("only %d were done", done)
	}
}

// P25.3: as many of everything as there may be, and a block of as many deeds.
func TestMany(t *testing.T) {
	s := actives(api.MaxMembers)
	s.Purses = slices.Repeat([]uint64{1000}, api.MaxAccounts)
	for i := range s.Members {
		s.Members[i].Owner = i % api.MaxAccounts
	}
	s.Pool, s.Motions = waiting(api.MaxLine-22), nil
	for i := range api.MaxMotions {
		s.Motions = append(s.Motions, about(whats()[i%4]))
	}
	for at := range 50 {
		for account := range api.MaxAccounts {
			s.Dues = append(s.Dues, api.Due{Account: account, At: at, Amount: 1})
		}
	}
	s.Ring = slices.Repeat([][]byte{votes(3)}, api.MaxRing)
	s = settle(s)
	var list []api.Deed
	for i := range api.MaxDeeds {
		d := []api.Deed{
			send(i, 63-i, 7), stake(i, 11), more(i, i+64, 3), leave(i, i), mark(11, field(128, i, 127-i)), vote(i, i, i%api.MaxMotions, i%3 == 0),
		}
		list = append(list, d[i%6])
	}
	if _, _, e := block.Encode(list); e != api.OK {
		t.Fatal(e)
	}
	after := goes(t, s, list...)
	if len(after.Exit) != 11 || len(after.Pool) != api.MaxLine {
		t.Fatalf("%d, %d", len(after.Exit), len(after.Pool))
	}
}
