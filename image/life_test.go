package image_test

import (
	"math/rand"
	"slices"
	"testing"

	"bullion/api"
	"bullion/block"
	"bullion/rite"
	"bullion/state"
)

// life is a state that goes through blocks and ticks.
type life struct {
	dice *rand.Rand
	s    api.State
}

// maybe says something once in so many times.
func (x *life) maybe(n int) bool { return x.dice.Intn(n) == 0 }

// upTo is a number from 0 to most; small ones are as likely as great ones.
func (x *life) upTo(most uint64) uint64 {
	return x.dice.Uint64() >> x.dice.Intn(64) % (most + 1)
}

// pick is one of a list.
func pick[T any](x *life, list []T) T { return list[x.dice.Intn(len(list))] }

// field is one of so many bits, of which any are 1.
func (x *life) field(n int) []byte {
	b := votes()
	for i := range n {
		if x.maybe(2) {
			b[i/8] |= 1 << (i % 8)
		}
	}
	return b
}

// born is a state of any sort that fits, whether a genesis comes to it or not.
func (x *life) born() api.State {
	p := pick(x, right())
	s := api.State{
		Params: p, Most: api.MaxMoney, Epoch: int(x.upTo(api.MaxEpoch)), Calm: int(x.upTo(api.MaxEpoch)), Emergency: x.maybe(2),
		Minted: x.upTo(50), Burned: x.upTo(1 << 50), Treasury: 50 + x.upTo(1<<50),
	}
	for range 1 + x.dice.Intn(pick(x, []int{1, 4, api.MaxAccounts})) {
		s.Purses = append(s.Purses, x.upTo(1<<50))
	}
	for range x.dice.Intn(pick(x, []int{1, 4, 20, api.MaxMembers + 1})) {
		s.Members = append(s.Members, x.member(p, len(s.Purses)))
	}
	s = queued(s)
	x.dice.Shuffle(len(s.Entry), func(i, j int) { s.Entry[i], s.Entry[j] = s.Entry[j], s.Entry[i] })
	x.dice.Shuffle(len(s.Exit), func(i, j int) { s.Exit[i], s.Exit[j] = s.Exit[j], s.Exit[i] })
	x.money(&s)
	for range x.dice.Intn(pick(x, []int{1, 4, api.MaxMotions + 1})) {
		s.Motions = append(s.Motions, x.motion(len(s.Purses)))
	}
	s.Marks = x.field(len(s.Members))
	for range x.dice.Intn(api.MaxRing + 1) {
		s.Ring = append(s.Ring, x.field(api.MaxMembers))
	}
	return settle(s)
}

// member is any that fits.
func (x *life) member(p api.Params, accounts int) api.Member {
	m := api.Member{Owner: x.dice.Intn(accounts), Status: pick(x, statuses())}
	m.Score, m.Streak = x.upTo(p.ScoreCap), x.dice.Intn(p.Streak+1)
	switch m.Status {
	case api.StatusActive, api.StatusLeaving:
		m.Balance = p.Floor + 1 + x.upTo(p.Cap-p.Floor-1)
		m.Eff = min(m.Balance/p.Inc*p.Inc, p.MaxEff)
	case api.StatusPending:
		m.Balance = 1 + x.upTo(p.Cap-1)
	}
	return m
}

// money lets deposits wait, and dues.
func (x *life) money(s *api.State) {
	for range x.dice.Intn(pick(x, []int{1, 4, api.MaxLine + 1})) {
		d := api.Deposit{Account: x.dice.Intn(len(s.Purses)), Amount: 1 + x.upTo(1<<50), New: len(s.Members) == 0 || x.maybe(2)}
		if !d.New {
			d.Member = x.dice.Intn(len(s.Members))
		}
		s.Pool = append(s.Pool, d)
	}
	at := int(x.upTo(1 << 30))
	for range x.dice.Intn(pick(x, []int{1, 4, 300})) {
		at += 1 + x.dice.Intn(1000)
		for _, i := range x.dice.Perm(len(s.Purses))[:x.dice.Intn(min(3, len(s.Purses)+1))] {
			s.Dues = append(s.Dues, api.Due{Account: i, At: at, Amount: 1 + x.upTo(1<<50)})
		}
	}
}

// motion is any that fits.
func (x *life) motion(accounts int) api.Motion {
	m := api.Motion{
		Account: x.dice.Intn(accounts), What: pick(x, whats()), To: x.dice.Intn(accounts), Amount: x.upTo(api.MaxMoney),
		Ends: int(x.upTo(mostTime)), Due: int(x.upTo(mostTime)), State: pick(x, motions()),
		Yes: x.field(api.MaxMembers), No: x.field(api.MaxMembers),
	}
	if m.What == api.MoveParams {
		m.Params = pick(x, right())
	}
	return m
}

// P26.1, P26.3: states of any sort.
func TestAnyState(t *testing.T) {
	x := &life{dice: rand.New(rand.NewSource(5))}
	for range 900 {
		s := x.born()
		if !state.Fits(s) {
			t.Fatal(brief(s))
		}
		encodes(t, s)
	}
}

// deed is one of any kind, most of which might be done.
func (x *life) deed() api.Deed {
	s := x.s
	account, amount := x.dice.Intn(len(s.Purses)), 1+x.upTo(60)
	of := x.dice.Intn(len(s.Members))
	owner := s.Members[of].Owner
	switch 1 + x.dice.Intn(7) {
	case api.DeedSend:
		return api.Deed{Kind: api.DeedSend, Account: account, To: x.dice.Intn(len(s.Purses)), Amount: amount}
	case api.DeedStake:
		return api.Deed{Kind: api.DeedStake, Account: account, Amount: amount}
	case api.DeedTop:
		return api.Deed{Kind: api.DeedTop, Account: owner, Member: of, Amount: amount}
	case api.DeedLeave:
		return api.Deed{Kind: api.DeedLeave, Account: owner, Member: of}
	case api.DeedMark:
		return api.Deed{Kind: api.DeedMark, Epoch: s.Epoch, Bits: x.field(len(s.Members))[:(len(s.Members)+7)/8]}
	case api.DeedMove:
		m := about(pick(x, whats()), api.MotionOpen)
		return api.Deed{Kind: api.DeedMove, Account: account, What: m.What, Params: m.Params, To: m.To, Amount: m.Amount}
	default:
		return api.Deed{Kind: api.DeedVote, Account: owner, Member: of, Motion: x.dice.Intn(3), Yes: !x.maybe(3)}
	}
}

// here marks all members.
func (x *life) here(t *testing.T) {
	bits := votes()
	for i := range x.s.Members {
		bits[i/8] |= 1 << (i % 8)
	}
	x.block(t, api.Deed{Kind: api.DeedMark, Epoch: x.s.Epoch, Bits: bits[:(len(x.s.Members)+7)/8]})
}

// block does deeds, all of them.
func (x *life) block(t *testing.T, list ...api.Deed) {
	t.Helper()
	b, _, e := block.Encode(list)
	if e != api.OK {
		t.Fatal(e)
	}
	after, at, e := rite.Block(x.s, b)
	if e != api.OK {
		t.Fatal(at, e, brief(list), brief(x.s))
	}
	x.s = after
}

// tick is the next one.
func (x *life) tick(t *testing.T) {
	t.Helper()
	after, _, e := state.Tick(x.s)
	if e != api.OK {
		t.Fatal(e, brief(x.s))
	}
	x.s = after
}

// P26.1, P26.3: each state that a genesis comes to by blocks and ticks.
func TestLife(t *testing.T) {
	for seed := range int64(12) {
		x := &life{dice: rand.New(rand.NewSource(seed))}
		g := api.Genesis{Params: simple(), Most: 1 << 30, Purses: []uint64{500, 200, 900}}
		for i := range 1 + x.dice.Intn(9) {
			g.Founders = append(g.Founders, api.Founder{Owner: i % 3, Balance: 11 + x.upTo(29)})
		}
		x.s, _ = state.New(g)
		encodes(t, x.s)
		for range 40 {
			for range x.dice.Intn(12) {
				if after, e := rite.Do(x.s, x.deed()); e == api.OK {
					x.s = after
					encodes(t, x.s)
				}
			}
			if !x.maybe(3) {
				x.here(t)
			}
			x.tick(t)
			encodes(t, x.s)
		}
	}
}

// P26.3: who goes on from what was decoded comes to the same.
func TestGoOn(t *testing.T) {
	x := &life{dice: rand.New(rand.NewSource(77))}
	x.s, _ = state.New(api.Genesis{Params: simple(), Most: 1 << 30, Purses: []uint64{500, 200}, Founders: []api.Founder{{Balance: 25}, {Owner: 1, Balance: 40}}})
	for range 60 {
		for range 5 {
			d := x.deed()
			after, e := rite.Do(x.s, d)
			decodedAfter, decodedE := rite.Do(again(t, x.s), d)
			if e != decodedE || !alike(after, decodedAfter) {
				t.Fatal(e, decodedE, brief(after), brief(decodedAfter))
			}
			if e == api.OK {
				x.s = after
			}
		}
		x.here(t)
		after, _, _ := state.Tick(again(t, x.s))
		x.tick(t)
		if !alike(after, x.s) {
			t.Fatal(brief(after), brief(x.s))
		}
	}
}

// again is a state that was encoded and decoded.
func again(t *testing.T, s api.State) api.State {
	t.Helper()
	after, e := decoded(t, encodes(t, s))
	if e != api.OK {
		t.Fatal(e)
	}
	return after
}

// all is a deed of each of so many accounts.
func all(n int, deed func(i int) api.Deed) []api.Deed {
	var list []api.Deed
	for i := range n {
		list = append(list, deed(i))
	}
	return list
}

// P26.1: a genesis comes to a state with dues of each account for each of Wait ticks, with all other lists full: its image is there.
func TestGreatestLife(t *testing.T) {
	p := scaled(api.MaxInc, api.MaxStake, api.MaxInc, api.MaxStake, api.MaxStake, api.MaxStake)
	p.Wait, p.Churn, p.Poll, p.Enact = api.MaxWait, api.MaxChurn, api.MaxTicks, api.MaxTicks
	g := api.Genesis{Params: p, Most: api.MaxMoney, Purses: slices.Repeat([]uint64{1 << 55}, api.MaxAccounts)}
	for i := range api.MaxMembers {
		g.Founders = append(g.Founders, api.Founder{Owner: i % api.MaxAccounts, Balance: api.MaxStake})
	}
	x := &life{dice: rand.New(rand.NewSource(1))}
	x.s, _ = state.New(g)
	leave := func(i int) api.Deed { return api.Deed{Kind: api.DeedLeave, Account: i, Member: i} }
	back := func(i int) api.Deed {
		return api.Deed{Kind: api.DeedTop, Account: i, Member: i, Amount: api.MaxStake}
	}
	move := func(i int) api.Deed {
		return api.Deed{Kind: api.DeedMove, Account: i, What: api.MoveParams, Params: vast()}
	}
	// In each tick one member of each account leaves, and is back by a deposit.
	for range api.MaxWait {
		x.here(t)
		x.block(t, all(api.MaxAccounts, leave)...)
		x.block(t, all(api.MaxAccounts, back)...)
		x.tick(t)
	}
	x.block(t, all(api.MaxMotions, move)...)
	for range api.MaxLine / api.MaxAccounts {
		x.block(t, all(api.MaxAccounts, back)...)
	}
	x.block(t, all(api.MaxAccounts, leave)...)
	x.here(t)
	s := x.s
	if len(s.Dues) != api.MaxWait*api.MaxAccounts || len(s.Pool) != api.MaxLine || len(s.Motions) != api.MaxMotions || len(s.Ring) != api.MaxRing || len(s.Exit) != 64 {
		t.Fatal(len(s.Dues), len(s.Pool), len(s.Motions), len(s.Ring), len(s.Exit))
	}
	if b := encodes(t, s); len(b) < 20000 || len(b) > len(text(great())) {
		t.Fatal(len(b))
	}
}
