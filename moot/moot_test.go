package moot_test

import (
	"bytes"
	"math"
	"math/big"
	"math/rand"
	"reflect"
	"slices"
	"testing"

	"bullion/api"
	"bullion/deed"
	"bullion/moot"
	"bullion/param"
)

const (
	top      = 1<<64 - 1
	mostTime = 1<<31 - 1
	size     = api.MaxMembers / 8 // of a field of all members
)

// simple are the parameters of the document's examples.
func simple() api.Params {
	return api.Params{
		Inc: 10, MaxEff: 30, Floor: 10, Cap: 40, Up: 10, Down: 5,
		Bias: 4, Quot: 100, BiasEm: 8, QuotEm: 50, Recover: 2, ScoreCap: 100,
		Rate: 1 << 20, Bond: 1, Delay: 2, Streak: 4, Boost: 100, Absent: 100, Burn: 5000,
		Churn: 2, Wait: 2, Poll: 2, Enact: 1, Quorum: 3000,
	}
}

// with are those, changed in some way.
func with(change func(p *api.Params)) api.Params {
	p := simple()
	change(&p)
	return p
}

// wrong are parameters that aren't right, and right ones are others that are.
func wrong() []api.Params {
	return []api.Params{
		{},
		{Poll: 2, Enact: 1, Quorum: 3000},
		with(func(p *api.Params) { p.Inc = 0 }),
		with(func(p *api.Params) { p.MaxEff = 31 }),
		with(func(p *api.Params) { p.Floor = 40 }),
		with(func(p *api.Params) { p.ScoreCap = 1 }),
		with(func(p *api.Params) { p.Poll = 0 }),
		with(func(p *api.Params) { p.Poll = -1 }),
		with(func(p *api.Params) { p.Poll = api.MaxTicks + 1 }),
		with(func(p *api.Params) { p.Poll = math.MaxInt }),
		with(func(p *api.Params) { p.Poll = math.MinInt }),
		with(func(p *api.Params) { p.Enact = -1 }),
		with(func(p *api.Params) { p.Enact = api.MaxTicks + 1 }),
		with(func(p *api.Params) { p.Quorum = api.MaxRate + 1 }),
		with(func(p *api.Params) { p.Quorum = -1 }),
		with(func(p *api.Params) { p.Churn = 0 }),
	}
}

func right() []api.Params {
	return []api.Params{
		simple(),
		with(func(p *api.Params) { p.Poll = 1 }),
		with(func(p *api.Params) { p.Poll, p.Enact = api.MaxTicks, api.MaxTicks }),
		with(func(p *api.Params) { p.Quorum, p.Enact = 0, 0 }),
		with(func(p *api.Params) { p.Quorum = api.MaxRate }),
		with(func(p *api.Params) { p.Delay, p.Boost = 9, 0 }),
	}
}

// numbers are ints at and far behind any end.
func numbers() []int {
	return []int{
		math.MinInt, math.MinInt + 1, -1 << 32, -1 << 31, -65, -2, -1, 0, 1, 2, 3, 4, 5, 6, 7, 8, 15, 31, 32, 33, 62, 63, 64, 65,
		126, 127, 128, 129, 255, 256, 1<<30 - 1, 1 << 30, 1<<30 + 1, mostTime - 1, mostTime, mostTime + 1, 1 << 32, 1<<32 + 1, 1<<32 + 3,
		math.MaxInt - 1, math.MaxInt,
	}
}

// states are all that there are, and others are numbers that are none.
func states() []int {
	return []int{api.MotionOpen, api.MotionPassed, api.MotionDone, api.MotionFailed}
}

func others() []int {
	return []int{0, -1, -2, 5, 6, 1 << 32, 1<<32 + api.MotionOpen, 1<<32 + api.MotionPassed, 1<<32 + api.MotionDone, math.MinInt, math.MinInt + 1, math.MaxInt}
}

// whats are all that a motion may be about.
func whats() []int {
	return []int{api.MoveParams, api.MoveSpend, api.MoveOn, api.MoveOff}
}

// over says whether a state is one of what is over, by the chapter's words.
func over(state int) bool { return state == api.MotionDone || state == api.MotionFailed }

// votes is a field of all members in which the bits at these places are 1.
func votes(places ...int) []byte {
	b := make([]byte, size)
	for _, i := range places {
		b[i/8] |= 1 << (i % 8)
	}
	return b
}

// ones are so many bytes of which all bits are 1.
func ones(n int) []byte { return bytes.Repeat([]byte{0xff}, n) }

// bit says whether a bit is 1, by what the bytes are worth together.
func bit(b []byte, i int) bool {
	b = slices.Clone(b)
	slices.Reverse(b)
	return i >= 0 && new(big.Int).SetBytes(b).Bit(i) == 1
}

// about is an open motion about something, with votes.
func about(what int) api.Motion {
	m := api.Motion{Account: 3, What: what, Ends: 7, State: api.MotionOpen, Yes: votes(0, 9), No: votes(2, 127)}
	switch what {
	case api.MoveParams:
		m.Params = simple()
	case api.MoveSpend:
		m.To, m.Amount = 4, 500
	}
	return m
}

// in is a motion in a state.
func in(state int) api.Motion {
	m := about(api.MoveSpend)
	m.State, m.Ends, m.Due = state, 100+state, 200+state
	return m
}

// several are motions in these states, each of them unlike all others.
func several(states ...int) []api.Motion {
	var list []api.Motion
	for i, state := range states {
		m := in(state)
		m.Account, m.Amount, m.Ends, m.Due = i%api.MaxAccounts, uint64(1000+i), m.Ends+i, m.Due+2*i
		m.Yes, m.No = votes(i%126), votes(i%126+1)
		list = append(list, m)
	}
	return list
}

// moving is a right deed to move something.
func moving(what int) api.Deed {
	d := api.Deed{Kind: api.DeedMove, Account: 5, What: what}
	switch what {
	case api.MoveParams:
		d.Params = with(func(p *api.Params) { p.Delay = 6 })
	case api.MoveSpend:
		d.To, d.Amount = 6, 700
	}
	return d
}

// unright are deeds that nobody may move: those of other kinds, and those that aren't right.
func unright() []api.Deed {
	return append(kinds(),
		api.Deed{},
		api.Deed{Kind: api.DeedMove},
		api.Deed{Kind: api.DeedMove, What: 5},
		api.Deed{Kind: api.DeedMove, What: -1},
		api.Deed{Kind: api.DeedMove, What: api.MoveParams},
		api.Deed{Kind: api.DeedMove, What: api.MoveParams, Params: wrong()[2]},
		api.Deed{Kind: api.DeedMove, What: api.MoveParams, Params: simple(), Amount: 1},
		api.Deed{Kind: api.DeedMove, What: api.MoveSpend, To: 1},
		api.Deed{Kind: api.DeedMove, What: api.MoveSpend, To: -1, Amount: 1},
		api.Deed{Kind: api.DeedMove, What: api.MoveSpend, To: api.MaxAccounts, Amount: 1},
		api.Deed{Kind: api.DeedMove, What: api.MoveSpend, Amount: api.MaxMoney + 1},
		api.Deed{Kind: api.DeedMove, What: api.MoveSpend, Amount: top},
		api.Deed{Kind: api.DeedMove, What: api.MoveSpend, Amount: 1, Params: simple()},
		api.Deed{Kind: api.DeedMove, Account: -1, What: api.MoveOn},
		api.Deed{Kind: api.DeedMove, Account: api.MaxAccounts, What: api.MoveOn},
		api.Deed{Kind: api.DeedMove, What: api.MoveOn, Params: simple()},
		api.Deed{Kind: api.DeedMove, What: api.MoveOn, To: 1},
		api.Deed{Kind: api.DeedMove, What: api.MoveOff, Amount: 1},
		api.Deed{Kind: api.DeedMove, What: api.MoveOff, Yes: true},
		api.Deed{Kind: api.DeedMove, What: api.MoveOff, Member: 1},
		api.Deed{Kind: api.DeedMove, What: api.MoveOff, Motion: 1},
		api.Deed{Kind: api.DeedMove, What: api.MoveOff, Epoch: 1},
		api.Deed{Kind: api.DeedMove, What: api.MoveOff, Bits: []byte{1}},
		api.Deed{Kind: 1<<32 + api.DeedMove, What: api.MoveOn},
	)
}

// kinds are right deeds of every other kind.
func kinds() []api.Deed {
	return []api.Deed{
		{Kind: api.DeedSend, Account: 1, To: 2, Amount: 3},
		{Kind: api.DeedStake, Account: 1, Amount: 3},
		{Kind: api.DeedTop, Account: 1, Member: 2, Amount: 3},
		{Kind: api.DeedLeave, Account: 1, Member: 2},
		{Kind: api.DeedMark, Epoch: 3, Bits: []byte{7, 1}},
		{Kind: api.DeedVote, Account: 1, Member: 2, Motion: 3, Yes: true},
	}
}

// active are members that count, with these effective balances; every other one waits to leave.
func active(effs ...uint64) []api.Member {
	var list []api.Member
	for i, n := range effs {
		list = append(list, api.Member{Standing: api.Standing{Balance: top, Eff: n, Score: 7}, Owner: 5, Status: api.StatusActive + i%2})
	}
	return list
}

// same says whether motions are the same; a list without an element may be nil.
func same(a, b []api.Motion) bool {
	return slices.EqualFunc(a, b, func(x, y api.Motion) bool {
		votes := bytes.Equal(x.Yes, y.Yes) && bytes.Equal(x.No, y.No)
		x.Yes, x.No, y.Yes, y.No = nil, nil, nil, nil
		return votes && reflect.DeepEqual(x, y)
	})
}

// deep are the same motions elsewhere.
func deep(list []api.Motion) []api.Motion {
	list = slices.Clone(list)
	for i := range list {
		list[i].Yes, list[i].No = slices.Clone(list[i].Yes), slices.Clone(list[i].No)
	}
	return list
}

// roomy is a list with spare room on both sides, full of other things, and all the memory in which it stands.
func roomy[T any](list []T, other T) (inner, memory []T) {
	memory = slices.Concat(slices.Repeat([]T{other}, 3), list, slices.Repeat([]T{other}, 5))
	return memory[3 : 3+len(list)], memory
}

// room is what is handed in, with spare room around each list, all of their memory, and how it was.
type room struct {
	list, all, was          []api.Motion
	members, peers, wasPeer []api.Member
	d                       api.Deed
	raw, wasRaw             [][]byte
}

func (r *room) pad(b []byte) []byte {
	if b == nil {
		return nil
	}
	inner, memory := roomy(b, 0xff)
	r.raw, r.wasRaw = append(r.raw, memory), append(r.wasRaw, slices.Clone(memory))
	return inner
}

func handed(list []api.Motion, members []api.Member, d api.Deed) *room {
	r := &room{d: d}
	r.d.Bits = r.pad(d.Bits)
	list = slices.Clone(list)
	for i, m := range list {
		list[i].Yes, list[i].No = r.pad(m.Yes), r.pad(m.No)
	}
	r.list, r.all = roomy(list, in(api.MotionDone))
	r.members, r.peers = roomy(members, active(top)[0])
	r.was, r.wasPeer = deep(r.all), slices.Clone(r.peers)
	return r
}

// stays asks that all that was handed in is as it was.
func (r *room) stays(t *testing.T) {
	t.Helper()
	if !same(r.all, r.was) || !slices.Equal(r.peers, r.wasPeer) {
		t.Fatalf("%v, %v are now %v, %v", r.was, r.wasPeer, r.all, r.peers)
	}
	for i, b := range r.raw {
		if !bytes.Equal(b, r.wasRaw[i]) {
			t.Fatalf("%v are now %v", r.wasRaw[i], b)
		}
	}
}

// scribble writes over all that was handed out, spare room too; each list has to keep what was written into it.
func (r *room) scribble(t *testing.T, out []api.Motion) {
	t.Helper()
	var lists [][]byte
	for _, m := range out {
		lists = append(lists, m.Yes[:cap(m.Yes)], m.No[:cap(m.No)])
	}
	for i, b := range lists {
		copy(b, bytes.Repeat([]byte{byte(i)}, len(b)))
	}
	for i, b := range lists {
		if !bytes.Equal(b, bytes.Repeat([]byte{byte(i)}, len(b))) {
			t.Fatalf("the lists of %v share memory", out)
		}
	}
	out = out[:cap(out)]
	for i := range out {
		out[i] = api.Motion{Account: -77}
	}
	r.stays(t)
}

// fits asks whether a motion is right, and that it stays as it was.
func fits(t *testing.T, m api.Motion, want bool) {
	t.Helper()
	r := handed([]api.Motion{m}, nil, api.Deed{})
	if got := moot.Fits(r.list[0]); got != want {
		t.Fatalf("Fits(%v): %v", m, got)
	}
	r.stays(t)
}

// openOf is what Open answers, by the chapter's words.
func openOf(p api.Params, list []api.Motion, d api.Deed, epoch int) ([]api.Motion, int, api.Errno) {
	if param.Check(p) != api.OK {
		return nil, 0, api.ErrParam
	}
	if !deed.Right(d) || d.Kind != api.DeedMove {
		return nil, 0, api.ErrDeed
	}
	if epoch < 0 || epoch > api.MaxEpoch {
		return nil, 0, api.ErrArg
	}
	i := 0
	for i < len(list) && !over(list[i].State) {
		i++
	}
	if i >= api.MaxMotions {
		return nil, 0, api.ErrFull
	}
	after := append(deep(list), api.Motion{})[:max(len(list), i+1)]
	after[i] = api.Motion{
		Account: d.Account, What: d.What, Params: d.Params, To: d.To, Amount: d.Amount,
		State: api.MotionOpen, Ends: epoch + p.Poll, Yes: make([]byte, 16), No: make([]byte, 16),
	}
	return after, i, api.OK
}

// voteOf is what Vote answers, likewise.
func voteOf(list []api.Motion, i, member int, yes bool) ([]api.Motion, api.Errno) {
	if i < 0 || i >= len(list) {
		return nil, api.ErrMotion
	}
	m := list[i]
	switch {
	case m.State != api.MotionOpen:
		return nil, api.ErrClosed
	case member < 0 || member > 127 || 8*len(m.Yes) <= member || 8*len(m.No) <= member:
		return nil, api.ErrArg
	case bit(m.Yes, member) || bit(m.No, member):
		return nil, api.ErrTwice
	}
	after := deep(list)
	if yes {
		after[i].Yes[member/8] |= 1 << (member % 8)
	} else {
		after[i].No[member/8] |= 1 << (member % 8)
	}
	return after, api.OK
}

// whole is a number as a whole number.
func whole(n uint64) *big.Int { return new(big.Int).SetUint64(n) }

// carried says whether enough are for a motion, by chapter 22's words over whole numbers.
func carried(p api.Params, members []api.Member, m api.Motion) bool {
	yes, no, all := new(big.Int), new(big.Int), new(big.Int)
	for i, x := range members {
		if x.Status != api.StatusActive && x.Status != api.StatusLeaving {
			continue
		}
		all.Add(all, whole(x.Eff))
		if bit(m.Yes, i) {
			yes.Add(yes, whole(x.Eff))
		}
		if bit(m.No, i) {
			no.Add(no, whole(x.Eff))
		}
	}
	voted := new(big.Int).Add(yes, no)
	if !all.IsUint64() || !voted.IsUint64() || p.Quorum < 0 || all.Sign() == 0 || yes.Cmp(no) <= 0 {
		return false
	}
	return voted.Mul(voted, whole(api.MaxRate)).Cmp(all.Mul(all, whole(uint64(p.Quorum)))) >= 0
}

// together is an epoch and Enact together, likewise, at most 2^31 - 1, and at least the least int.
func together(epoch, enact int) int {
	sum := new(big.Int).Add(big.NewInt(int64(epoch)), big.NewInt(int64(enact)))
	if sum.Cmp(big.NewInt(mostTime)) > 0 {
		return mostTime
	}
	if !sum.IsInt64() {
		return math.MinInt
	}
	return int(sum.Int64())
}

// closeOf is what Close answers, likewise.
func closeOf(p api.Params, list []api.Motion, members []api.Member, epoch int) []api.Motion {
	after := deep(list)
	for i, m := range list {
		if m.State != api.MotionOpen || m.Ends > epoch {
			continue
		}
		if carried(p, members, m) {
			after[i].State, after[i].Due = api.MotionPassed, together(epoch, p.Enact)
		} else {
			after[i].State = api.MotionFailed
		}
	}
	return after
}

// ripeOf is what Ripe answers, likewise.
func ripeOf(list []api.Motion, epoch int, quorum bool) []int {
	var places []int
	for i, m := range list {
		if m.State == api.MotionPassed && epoch >= m.Due && (quorum || m.What == api.MoveOn || m.What == api.MoveOff) {
			places = append(places, i)
		}
	}
	return places
}

// finishOf is what Finish answers, likewise.
func finishOf(list []api.Motion, i int, done bool) ([]api.Motion, api.Errno) {
	if i < 0 || i >= len(list) {
		return nil, api.ErrMotion
	}
	if list[i].State != api.MotionPassed {
		return nil, api.ErrState
	}
	after := deep(list)
	after[i].State = map[bool]int{true: api.MotionDone, false: api.MotionFailed}[done]
	return after, api.OK
}

// opened asks for a motion more, by the chapter's words, and for rule 4; it answers what Open did.
func opened(t *testing.T, p api.Params, list []api.Motion, d api.Deed, epoch int) ([]api.Motion, int, api.Errno) {
	t.Helper()
	want, wantI, wantE := openOf(p, list, d, epoch)
	r := handed(list, nil, d)
	after, i, e := moot.Open(p, r.list, r.d, epoch)
	if !same(after, want) || i != wantI || e != wantE {
		t.Fatalf("Open(%v, %v, %v, %d): %v, %d, %d, want %v, %d, %d", p, list, d, epoch, after, i, e, want, wantI, wantE)
	}
	r.stays(t)
	r.scribble(t, after)
	return want, i, e
}

// voted asks for a vote more, likewise.
func voted(t *testing.T, list []api.Motion, i, member int, yes bool) ([]api.Motion, api.Errno) {
	t.Helper()
	want, wantE := voteOf(list, i, member, yes)
	r := handed(list, nil, api.Deed{})
	after, e := moot.Vote(r.list, i, member, yes)
	if !same(after, want) || e != wantE {
		t.Fatalf("Vote(%v, %d, %d, %v): %v, %d, want %v, %d", list, i, member, yes, after, e, want, wantE)
	}
	r.stays(t)
	r.scribble(t, after)
	return want, e
}

// refused asks for an error of a vote.
func refused(t *testing.T, list []api.Motion, i, member int, want api.Errno) {
	t.Helper()
	for _, yes := range []bool{true, false} {
		if _, e := voted(t, list, i, member, yes); e != want {
			t.Fatalf("Vote(%v, %d, %d, %v): %d, want %d", list, i, member, yes, e, want)
		}
	}
}

// closed asks for what is counted, likewise.
func closed(t *testing.T, p api.Params, list []api.Motion, members []api.Member, epoch int) []api.Motion {
	t.Helper()
	want := closeOf(p, list, members, epoch)
	r := handed(list, members, api.Deed{})
	after := moot.Close(p, r.list, r.members, epoch)
	if !same(after, want) {
		t.Fatalf("Close(%v, %v, %v, %d): %v, want %v", p, list, members, epoch, after, want)
	}
	r.stays(t)
	r.scribble(t, after)
	return want
}

// ripe asks for what is to be done, likewise.
func ripe(t *testing.T, list []api.Motion, epoch int, quorum bool) []int {
	t.Helper()
	want := ripeOf(list, epoch, quorum)
	r := handed(list, nil, api.Deed{})
	if got := moot.Ripe(r.list, epoch, quorum); !slices.Equal(got, want) {
		t.Fatalf("Ripe(%v, %d, %v): %v, want %v", list, epoch, quorum, got, want)
	}
	r.stays(t)
	return want
}

// finished asks for a motion that is over, likewise.
func finished(t *testing.T, list []api.Motion, i int, done bool) ([]api.Motion, api.Errno) {
	t.Helper()
	want, wantE := finishOf(list, i, done)
	r := handed(list, nil, api.Deed{})
	after, e := moot.Finish(r.list, i, done)
	if !same(after, want) || e != wantE {
		t.Fatalf("Finish(%v, %d, %v): %v, %d, want %v, %d", list, i, done, after, e, want, wantE)
	}
	r.stays(t)
	r.scribble(t, after)
	return want, e
}

// P23.1: motions about everything, in every state, are right.
func TestFits(t *testing.T) {
	for _, what := range whats() {
		for _, state := range states() {
			m := about(what)
			m.State = state
			fits(t, m, true)
			m.Due, m.To, m.Amount = 9, 1, 1 // whatever it is about
			fits(t, m, true)
			m.Yes, m.No = make([]byte, size), make([]byte, size)
			fits(t, m, true)
			m.Yes, m.No = ones(size), ones(size)
			fits(t, m, true)
		}
	}
	fits(t, api.Motion{}, false)
}

// P23.1: each number at its ends, with all else right, whatever the motion is about.
func TestFitsNumbers(t *testing.T) {
	for _, what := range whats() {
		for _, n := range numbers() {
			for _, x := range []struct {
				field func(m *api.Motion) *int
				most  int
			}{
				{func(m *api.Motion) *int { return &m.Account }, 63},
				{func(m *api.Motion) *int { return &m.To }, 63},
				{func(m *api.Motion) *int { return &m.Ends }, 1<<31 - 1},
				{func(m *api.Motion) *int { return &m.Due }, 1<<31 - 1},
			} {
				m := about(what)
				*x.field(&m) = n
				fits(t, m, n >= 0 && n <= x.most)
			}
			m := about(what)
			m.State = n
			fits(t, m, slices.Contains(states(), n))
		}
	}
}

// P23.1: the most of each amount.
func TestFitsAmount(t *testing.T) {
	for _, what := range whats() {
		for n, want := range map[uint64]bool{
			0: true, 1: true, 1<<62 - 1: true, 1 << 62: true, 1<<62 + 1: false, 1 << 63: false, top - 1: false, top: false,
		} {
			m := about(what)
			m.Amount = n
			fits(t, m, want)
		}
	}
}

// P23.1: what a motion is about, and nothing else.
func TestFitsWhat(t *testing.T) {
	for _, n := range numbers() {
		m := about(n)
		fits(t, m, n >= 1 && n <= 4)
		m.Params = simple()
		fits(t, m, n == api.MoveParams)
	}
}

// P23.1: votes of every length, on one side and on both.
func TestFitsVotes(t *testing.T) {
	for _, what := range whats() {
		for _, b := range [][]byte{nil, {}, {0}, make([]byte, size-1), ones(size - 1), make([]byte, size), ones(size), make([]byte, size+1), ones(size + 1), ones(32)} {
			m := about(what)
			m.Yes = b
			fits(t, m, len(b) == 16)
			m = about(what)
			m.No = b
			fits(t, m, len(b) == 16)
			m.Yes = b
			fits(t, m, len(b) == 16)
		}
	}
}

// P23.1: parameters that are right, that aren't, and that are nothing.
func TestFitsParams(t *testing.T) {
	for _, what := range whats() {
		m := about(what)
		for _, m.Params = range right() {
			fits(t, m, what == api.MoveParams)
		}
		for _, m.Params = range wrong() {
			fits(t, m, what != api.MoveParams && m.Params == api.Params{})
		}
		for i := range reflect.TypeFor[api.Params]().NumField() { // just one of them is something
			m.Params = api.Params{}
			if f := reflect.ValueOf(&m.Params).Elem().Field(i); f.CanUint() {
				f.SetUint(1)
			} else {
				f.SetInt(1)
			}
			fits(t, m, false)
		}
	}
}

// P23.1: two faults at once.
func TestFitsFaults(t *testing.T) {
	faults := []func(m *api.Motion){
		func(m *api.Motion) { m.Account = -1 },
		func(m *api.Motion) { m.To = api.MaxAccounts },
		func(m *api.Motion) { m.What = 0 },
		func(m *api.Motion) { m.State = 5 },
		func(m *api.Motion) { m.Ends = -1 },
		func(m *api.Motion) { m.Due = 1 << 31 },
		func(m *api.Motion) { m.Amount = top },
		func(m *api.Motion) { m.Yes = nil },
		func(m *api.Motion) { m.No = ones(17) },
		func(m *api.Motion) { m.Params.Poll = -1 },
	}
	for _, what := range whats() {
		for _, a := range faults {
			for _, b := range faults {
				m := about(what)
				a(&m)
				b(&m)
				fits(t, m, false)
			}
		}
	}
}

// P23.2: what is moved, of everything that may be, with Params, To and Amount of its own.
func TestOpenWhats(t *testing.T) {
	for _, d := range []api.Deed{
		moving(api.MoveParams), moving(api.MoveSpend), moving(api.MoveOn), moving(api.MoveOff),
		{Kind: api.DeedMove, What: api.MoveParams, Params: right()[2]},
		{Kind: api.DeedMove, Account: api.MaxAccounts - 1, What: api.MoveParams, Params: right()[3]},
		{Kind: api.DeedMove, What: api.MoveSpend, Amount: 1},
		{Kind: api.DeedMove, Account: api.MaxAccounts - 1, What: api.MoveSpend, To: api.MaxAccounts - 1, Amount: api.MaxMoney},
		{Kind: api.DeedMove, What: api.MoveOn},
		{Kind: api.DeedMove, Account: api.MaxAccounts - 1, What: api.MoveOff},
	} {
		for _, list := range [][]api.Motion{nil, {}, several(api.MotionOpen), several(api.MotionPassed, api.MotionDone, api.MotionOpen)} {
			after, i, e := opened(t, simple(), list, d, 5)
			m := api.Motion{
				Account: d.Account, What: d.What, Params: d.Params, To: d.To, Amount: d.Amount,
				Ends: 7, State: api.MotionOpen, Yes: votes(), No: votes(),
			}
			if e != api.OK || i != min(len(list), 1) || !same(after[i:i+1], []api.Motion{m}) || !moot.Fits(after[i]) {
				t.Fatal(d, list, after, i, e)
			}
		}
	}
}

// P23.2: each Poll and each epoch.
func TestOpenEnds(t *testing.T) {
	for _, p := range right() {
		for _, epoch := range []int{0, 1, 2, 5, 1 << 29, api.MaxEpoch - api.MaxTicks, api.MaxEpoch - 1, api.MaxEpoch} {
			after, _, e := opened(t, p, nil, moving(api.MoveOn), epoch)
			if e != api.OK || after[0].Ends != epoch+p.Poll || after[0].Due != 0 {
				t.Fatal(p, epoch, after, e)
			}
		}
	}
	for _, epoch := range numbers() {
		_, _, e := opened(t, simple(), nil, moving(api.MoveOn), epoch)
		if want := epoch >= 0 && epoch <= 1<<30; want != (e == api.OK) || !want && e != api.ErrArg {
			t.Fatal(epoch, e)
		}
	}
}

// P23.2: parameters that aren't right.
func TestOpenParams(t *testing.T) {
	for _, p := range wrong() {
		if _, _, e := opened(t, p, nil, moving(api.MoveOn), 5); e != api.ErrParam {
			t.Fatal(p, e)
		}
	}
	for _, p := range right() {
		if _, _, e := opened(t, p, nil, moving(api.MoveOn), 5); e != api.OK {
			t.Fatal(p, e)
		}
	}
}

// P23.2: deeds of other kinds, and those that aren't right.
func TestOpenDeeds(t *testing.T) {
	for _, d := range kinds() {
		if !deed.Right(d) {
			t.Fatal(d)
		}
	}
	for _, d := range unright() {
		for _, list := range [][]api.Motion{nil, several(api.MotionOpen, api.MotionDone)} {
			if _, _, e := opened(t, simple(), list, d, 5); e != api.ErrDeed {
				t.Fatal(d, e)
			}
		}
	}
}

// P23.2: which error comes first, of one, two, three and four faults at once.
func TestOpenFirst(t *testing.T) {
	full := several(slices.Repeat([]int{api.MotionOpen}, api.MaxMotions)...)
	for faults := range 16 {
		p, d, epoch, list := simple(), moving(api.MoveSpend), 5, several(api.MotionOpen, api.MotionDone)
		want := api.OK
		for i, fault := range []func(){
			func() { list, want = full, api.ErrFull },
			func() { epoch, want = -1, api.ErrArg },
			func() { d, want = unright()[0], api.ErrDeed },
			func() { p, want = wrong()[0], api.ErrParam },
		} {
			if faults>>i&1 == 1 {
				fault()
			}
		}
		after, i, e := opened(t, p, list, d, epoch)
		if e != want || e != api.OK && (after != nil || i != 0) {
			t.Fatal(faults, after, i, e)
		}
	}
	for _, p := range wrong() {
		for _, d := range unright() {
			for _, epoch := range []int{-1, 5, api.MaxEpoch + 1} {
				if _, _, e := opened(t, p, full, d, epoch); e != api.ErrParam {
					t.Fatal(p, d, epoch, e)
				}
				if _, _, e := opened(t, simple(), full, d, epoch); e != api.ErrDeed {
					t.Fatal(d, epoch, e)
				}
			}
		}
	}
}

// P23.2: the place is that of the first motion that is over, wherever it stands, or else behind all.
func TestOpenPlace(t *testing.T) {
	for n := range 8 {
		list := several(slices.Repeat([]int{api.MotionOpen}, n)...)
		for i := range list {
			list[i].State = api.MotionOpen + i%2
		}
		if _, i, e := opened(t, simple(), list, moving(api.MoveOn), 5); i != n || e != api.OK {
			t.Fatal(n, i, e)
		}
		for first := range n {
			for _, state := range []int{api.MotionDone, api.MotionFailed} {
				one := deep(list)
				one[first].State = state
				after, i, e := opened(t, simple(), one, moving(api.MoveOn), 5)
				if i != first || e != api.OK || len(after) != n {
					t.Fatal(one, after, i, e)
				}
				for second := first + 1; second < n; second++ {
					for _, again := range []int{api.MotionDone, api.MotionFailed} {
						two := deep(one)
						two[second].State = again
						after, i, e := opened(t, simple(), two, moving(api.MoveParams), 5)
						if i != first || e != api.OK || !same(after[second:second+1], two[second:second+1]) {
							t.Fatal(two, after, i, e)
						}
					}
				}
			}
		}
	}
}

// P23.2: states that are none are not over.
func TestOpenStates(t *testing.T) {
	for _, state := range others() {
		list := several(state, api.MotionOpen, state)
		if after, i, e := opened(t, simple(), list, moving(api.MoveOn), 5); i != 3 || e != api.OK || len(after) != 4 {
			t.Fatal(state, i, e)
		}
		list = several(state, state, api.MotionFailed)
		if _, i, e := opened(t, simple(), list, moving(api.MoveOn), 5); i != 2 || e != api.OK {
			t.Fatal(state, i, e)
		}
		many := several(slices.Repeat([]int{state}, api.MaxMotions)...)
		if _, _, e := opened(t, simple(), many, moving(api.MoveOn), 5); e != api.ErrFull {
			t.Fatal(state, e)
		}
	}
}

// P23.2: one less than the most motions, just as many, and more, with one that is over ahead of the place of the most, at it, and behind it.
func TestOpenFull(t *testing.T) {
	for _, n := range []int{0, 1, 30, 31, 32, 33, 34, 40, 64, 100} {
		list := several(slices.Repeat([]int{api.MotionPassed}, n)...)
		after, i, e := opened(t, simple(), list, moving(api.MoveSpend), 5)
		if n < 32 && (e != api.OK || i != n || len(after) != n+1) || n >= 32 && e != api.ErrFull {
			t.Fatal(n, i, e)
		}
		for _, place := range []int{0, 1, 15, 29, 30, 31, 32, 33, 34, 39, 63, 99} {
			if place >= n {
				continue
			}
			for _, state := range []int{api.MotionDone, api.MotionFailed} {
				one := deep(list)
				one[place].State = state
				after, i, e := opened(t, simple(), one, moving(api.MoveSpend), 5)
				if place < 32 && (e != api.OK || i != place || len(after) != n) || place >= 32 && e != api.ErrFull {
					t.Fatal(n, place, i, e)
				}
			}
		}
	}
}

// P23.2: the other motions stay, whatever they hold, and what is moved has nothing of what stood at its place.
func TestOpenOthers(t *testing.T) {
	strange := []api.Motion{
		{},
		{Account: -1, What: 9, Params: wrong()[3], To: math.MinInt, Amount: top, Ends: -5, Due: math.MaxInt, State: 77, Yes: nil, No: ones(40)},
		{Account: 63, What: api.MoveSpend, Params: simple(), To: 63, Amount: 5, Ends: 9, Due: 9, State: api.MotionDone, Yes: ones(16), No: ones(3)},
		{State: api.MotionPassed, Yes: []byte{}, No: []byte{0}},
	}
	after, i, e := opened(t, simple(), strange, moving(api.MoveOn), 0)
	if e != api.OK || i != 2 {
		t.Fatal(i, e)
	}
	m := api.Motion{Account: 5, What: api.MoveOn, Ends: 2, State: api.MotionOpen, Yes: votes(), No: votes()}
	if !same(after, []api.Motion{strange[0], strange[1], m, strange[3]}) {
		t.Fatal(after)
	}
}

// P23.2: the votes of what was moved lie over nobody else's memory: neither over each other, nor over those of what was moved ahead of it.
func TestOpenMemory(t *testing.T) {
	first, _, _ := moot.Open(simple(), nil, moving(api.MoveOn), 5)
	second, i, _ := moot.Open(simple(), first, moving(api.MoveOn), 5)
	if i != 1 {
		t.Fatal(i)
	}
	third, _, _ := moot.Open(simple(), first, moving(api.MoveOff), 5)
	lists := [][]byte{
		first[0].Yes, first[0].No, second[0].Yes, second[0].No, second[1].Yes, second[1].No,
		third[0].Yes, third[0].No, third[1].Yes, third[1].No,
	}
	for n, b := range lists {
		b = b[:cap(b)]
		copy(b, ones(len(b)))
		for _, other := range lists[n+1:] {
			if !bytes.Equal(other, votes()) {
				t.Fatal(n, lists)
			}
		}
	}
	if again, _, _ := moot.Open(simple(), nil, moving(api.MoveOn), 5); !bytes.Equal(again[0].Yes, votes()) || !bytes.Equal(again[0].No, votes()) {
		t.Fatal(again)
	}
}

// P23.3: each member's vote, for it and against it, and nothing else changes.
func TestVote(t *testing.T) {
	for _, member := range []int{0, 1, 6, 7, 8, 9, 15, 16, 63, 64, 119, 120, 126, 127} {
		for i := range 3 {
			list := several(api.MotionOpen, api.MotionOpen, api.MotionOpen)
			list[i].Yes, list[i].No = votes(), votes()
			after, e := voted(t, list, i, member, true)
			if e != api.OK || !bytes.Equal(after[i].Yes, votes(member)) || !bytes.Equal(after[i].No, votes()) {
				t.Fatal(member, i, after, e)
			}
			after, e = voted(t, list, i, member, false)
			if e != api.OK || !bytes.Equal(after[i].No, votes(member)) || !bytes.Equal(after[i].Yes, votes()) {
				t.Fatal(member, i, after, e)
			}
		}
	}
}

// P23.3: places of which there are none.
func TestVotePlaces(t *testing.T) {
	for n := range 5 {
		list := several(slices.Repeat([]int{api.MotionOpen}, n)...)
		for _, i := range append(numbers(), n-1, n, n+1, -n) {
			want := api.OK
			if i < 0 || i >= n {
				want = api.ErrMotion
			}
			refused(t, list, i, 100, want)
		}
	}
	for _, i := range numbers() {
		refused(t, nil, i, 5, api.ErrMotion)
		refused(t, []api.Motion{}, i, 5, api.ErrMotion)
	}
}

// P23.3: each state, and those that are none.
func TestVoteStates(t *testing.T) {
	for _, state := range append(states(), others()...) {
		want := api.ErrClosed
		if state == api.MotionOpen {
			want = api.OK
		}
		list := several(api.MotionOpen, state, api.MotionPassed)
		refused(t, list, 1, 50, want)
		refused(t, list, 0, 50, api.OK)
		refused(t, list, 2, 50, api.ErrClosed)
	}
}

// P23.3: members of whom there are none.
func TestVoteMembers(t *testing.T) {
	m := about(api.MoveOn)
	m.Yes, m.No = votes(), votes()
	wide := m
	wide.Yes, wide.No = make([]byte, 40), make([]byte, 40) // It has bits behind the last member's.
	for _, member := range append(numbers(), 320, 319) {
		want := api.OK
		if member < 0 || member > 127 {
			want = api.ErrArg
		}
		refused(t, []api.Motion{m}, 0, member, want)
		refused(t, []api.Motion{wide}, 0, member, want)
	}
}

// P23.3: votes that end ahead of the member's bit, on one side and on both.
func TestVoteShort(t *testing.T) {
	for yes := range 19 {
		for no := range 19 {
			m := about(api.MoveOff)
			m.Yes, m.No = make([]byte, yes), make([]byte, no)
			for _, member := range []int{0, 7, 8, 15, 16, 120, 126, 127, 8*yes - 1, 8 * yes, 8*no - 1, 8 * no} {
				want := api.OK
				if member < 0 || member > 127 || member >= 8*yes || member >= 8*no {
					want = api.ErrArg
				}
				refused(t, []api.Motion{m}, 0, member, want)
			}
		}
	}
	m := about(api.MoveOff)
	m.Yes, m.No = nil, votes()
	refused(t, []api.Motion{m}, 0, 0, api.ErrArg)
	m.Yes, m.No = votes(), nil
	refused(t, []api.Motion{m}, 0, 0, api.ErrArg)
	m.Yes, m.No = nil, nil
	refused(t, []api.Motion{m}, 0, 0, api.ErrArg)
}

// P23.3: who has voted, for it, against it, or both, votes no more; all others may.
func TestVoteTwice(t *testing.T) {
	for _, member := range []int{0, 7, 8, 64, 127} {
		for side := range 4 {
			m := about(api.MoveOn)
			m.Yes, m.No = votes(3, 70), votes(4, 71)
			if side&1 == 1 {
				m.Yes = votes(3, 70, member)
			}
			if side&2 == 2 {
				m.No = votes(4, 71, member)
			}
			for other := range api.MaxMembers {
				want := api.OK
				if slices.Contains([]int{3, 4, 70, 71}, other) || other == member && side > 0 {
					want = api.ErrTwice
				}
				refused(t, []api.Motion{in(api.MotionDone), m}, 1, other, want)
			}
		}
	}
}

// P23.3: all bits but the member's, on both sides, don't hinder it.
func TestVoteOthers(t *testing.T) {
	for _, member := range []int{0, 7, 8, 64, 127} {
		m := about(api.MoveOn)
		m.Yes, m.No = ones(size), ones(size)
		m.Yes[member/8] -= 1 << (member % 8)
		m.No[member/8] -= 1 << (member % 8)
		after, e := voted(t, []api.Motion{m}, 0, member, true)
		if e != api.OK || !bytes.Equal(after[0].Yes, ones(size)) || !bytes.Equal(after[0].No, m.No) {
			t.Fatal(member, after, e)
		}
		after, e = voted(t, []api.Motion{m}, 0, member, false)
		if e != api.OK || !bytes.Equal(after[0].No, ones(size)) || !bytes.Equal(after[0].Yes, m.Yes) {
			t.Fatal(member, after, e)
		}
	}
}

// P23.3: which error comes first, of two and three faults at once.
func TestVoteFirst(t *testing.T) {
	over := about(api.MoveOn)
	over.State, over.Yes, over.No = api.MotionFailed, votes(5), nil
	refused(t, []api.Motion{over}, 1, -1, api.ErrMotion)
	refused(t, []api.Motion{over}, -1, 5, api.ErrMotion)
	refused(t, nil, 0, 128, api.ErrMotion)
	refused(t, []api.Motion{over}, 0, -1, api.ErrClosed)
	refused(t, []api.Motion{over}, 0, 128, api.ErrClosed)
	refused(t, []api.Motion{over}, 0, 5, api.ErrClosed)
	over.No = votes(5)
	refused(t, []api.Motion{over}, 0, 5, api.ErrClosed)
	open := over
	open.State = api.MotionOpen
	refused(t, []api.Motion{open}, 0, 5, api.ErrTwice)
	open.No = nil // Its bit is 1 in Yes, but No has none.
	refused(t, []api.Motion{open}, 0, 5, api.ErrArg)
	open.Yes, open.No = []byte{}, votes(5)
	refused(t, []api.Motion{open}, 0, 5, api.ErrArg)
	open.Yes, open.No = ones(40), ones(40) // The bit is 1, of a member that there isn't.
	refused(t, []api.Motion{open}, 0, 128, api.ErrArg)
	refused(t, []api.Motion{open}, 0, -1, api.ErrArg)
	refused(t, []api.Motion{open}, 0, 127, api.ErrTwice)
}

// P23.4: motions of each state: only what is open is counted.
func TestCloseStates(t *testing.T) {
	members := active(30, 20, 30)
	for _, state := range append(states(), others()...) {
		m := in(state)
		m.Ends, m.Yes, m.No = 5, votes(0, 1), votes(2)
		after := closed(t, simple(), []api.Motion{m}, members, 9)
		want := state
		if state == api.MotionOpen {
			want = api.MotionPassed
		}
		if after[0].State != want || (state == api.MotionOpen) != (after[0].Due == 10) {
			t.Fatal(state, after)
		}
		m.Yes, m.No = m.No, m.Yes
		if state == api.MotionOpen {
			want = api.MotionFailed
		}
		if after := closed(t, simple(), []api.Motion{m}, members, 9); after[0].State != want || after[0].Due != m.Due {
			t.Fatal(state, after)
		}
	}
}

// P23.4: a motion is counted from the epoch on in which it ends.
func TestCloseEnds(t *testing.T) {
	for _, epoch := range numbers() {
		for _, ends := range append(numbers(), max(epoch, math.MinInt+1)-1, epoch, min(epoch, math.MaxInt-1)+1) {
			for _, yes := range [][]byte{votes(), votes(0)} {
				m := about(api.MoveSpend)
				m.Ends, m.Yes, m.No = ends, yes, votes()
				after := closed(t, simple(), []api.Motion{m}, active(20), epoch)
				if (after[0].State == api.MotionOpen) != (ends > epoch) {
					t.Fatal(ends, epoch, after)
				}
			}
		}
	}
	for ends, want := range map[int]int{6: api.MotionPassed, 7: api.MotionPassed, 8: api.MotionOpen} {
		m := about(api.MoveOn)
		m.Ends = ends
		if after := closed(t, simple(), []api.Motion{m}, active(20), 7); after[0].State != want || m.State != api.MotionOpen {
			t.Fatal(ends, after)
		}
	}
}

// P23.4: what just passes, and what just doesn't.
func TestCloseCount(t *testing.T) {
	p := simple()
	for _, x := range []struct {
		effs    []uint64
		yes, no []int
		want    int
	}{
		{[]uint64{20, 10, 70}, []int{0}, []int{1}, api.MotionPassed}, // just three tenths
		{[]uint64{20, 10, 71}, []int{0}, []int{1}, api.MotionFailed},
		{[]uint64{20, 9, 71}, []int{0}, []int{1}, api.MotionFailed},
		{[]uint64{21, 9, 70}, []int{0}, []int{1}, api.MotionPassed},
		{[]uint64{50, 50}, []int{0}, []int{1}, api.MotionFailed}, // as many for it as against it
		{[]uint64{51, 50}, []int{0}, []int{1}, api.MotionPassed},
		{[]uint64{50, 51}, []int{0}, []int{1}, api.MotionFailed},
		{[]uint64{50, 50}, nil, nil, api.MotionFailed}, // nobody
		{[]uint64{50, 50}, []int{0, 1}, nil, api.MotionPassed},
		{[]uint64{50, 50}, nil, []int{0, 1}, api.MotionFailed},
		{[]uint64{50, 50}, []int{2, 3, 127}, nil, api.MotionFailed}, // there are no such members
		{nil, []int{0}, nil, api.MotionFailed},
		{[]uint64{0}, []int{0}, nil, api.MotionFailed},
		{[]uint64{1}, []int{0}, nil, api.MotionPassed},
		{[]uint64{1 << 63, 1<<63 - 1}, []int{0}, []int{1}, api.MotionPassed}, // just 2^64 - 1
		{[]uint64{1<<63 - 1, 1 << 63}, []int{0}, []int{1}, api.MotionFailed},
		{[]uint64{1 << 63, 1<<63 - 1, 1}, []int{0}, []int{1}, api.MotionFailed}, // can't be counted
		{[]uint64{top, 1}, []int{0}, nil, api.MotionFailed},
		{[]uint64{top, 0}, []int{0}, nil, api.MotionPassed},
		{[]uint64{1, top}, []int{0}, []int{1}, api.MotionFailed},
		{[]uint64{top, top}, []int{0, 1}, nil, api.MotionFailed},
	} {
		m := about(api.MoveParams)
		m.Yes, m.No = votes(x.yes...), votes(x.no...)
		after := closed(t, p, []api.Motion{m}, active(x.effs...), m.Ends)
		if after[0].State != x.want {
			t.Fatal(x, after)
		}
	}
	p.Quorum = 0
	m := about(api.MoveOn)
	m.Yes, m.No = votes(0), votes()
	if after := closed(t, p, []api.Motion{m}, active(1, 1<<62), 9); after[0].State != api.MotionPassed {
		t.Fatal(after)
	}
	m.Yes = votes()
	if after := closed(t, p, []api.Motion{m}, active(1, 1<<62), 9); after[0].State != api.MotionFailed {
		t.Fatal(after)
	}
}

// P23.4: who doesn't count has no vote when votes are counted, whatever it was when it voted.
func TestCloseStatuses(t *testing.T) {
	for _, status := range []int{api.StatusPending, api.StatusActive, api.StatusLeaving, api.StatusOut, api.StatusLeft, 0, -1, 6, math.MinInt, math.MaxInt} {
		members := active(20, 30)
		members[1].Status = status
		m := about(api.MoveOn)
		m.Yes, m.No = votes(0), votes(1)
		want := api.MotionPassed
		if status == api.StatusActive || status == api.StatusLeaving {
			want = api.MotionFailed
		}
		if after := closed(t, simple(), []api.Motion{m}, members, 7); after[0].State != want {
			t.Fatal(status, after)
		}
		members[1].Eff = top // Too much together, if it counts.
		if after := closed(t, simple(), []api.Motion{m}, members, 7); after[0].State != want {
			t.Fatal(status, after)
		}
	}
}

// P23.4: it is due an epoch and Enact later, and at most in 2^31 - 1, whatever both are.
func TestCloseDue(t *testing.T) {
	for _, x := range []struct{ epoch, enact, want int }{
		{7, 0, 7}, {7, 1, 8}, {0, 0, 0}, {0, api.MaxTicks, 1000}, {api.MaxEpoch, api.MaxTicks, 1<<30 + 1000},
		{mostTime, 0, mostTime}, {mostTime - 1, 1, mostTime}, {mostTime, 1, mostTime}, {mostTime - 1, 2, mostTime}, {mostTime - 1, 0, mostTime - 1},
		{mostTime - 1000, 999, mostTime - 1}, {mostTime - 1000, 1000, mostTime}, {mostTime - 999, 1000, mostTime},
		{mostTime + 1, 0, mostTime}, {mostTime + 1, -1, mostTime}, {mostTime + 1, -2, mostTime - 1},
		{math.MaxInt, 0, mostTime}, {math.MaxInt, 1000, mostTime}, {math.MaxInt, math.MaxInt, mostTime}, {0, math.MaxInt, mostTime}, {7, math.MaxInt, mostTime},
		{-1, math.MaxInt, mostTime}, {math.MinInt, math.MaxInt, -1}, {math.MaxInt, math.MinInt, -1}, {-5, 3, -2}, {-5, 5, 0}, {5, -9, -4}, {0, math.MinInt, math.MinInt},
	} {
		p := with(func(p *api.Params) { p.Enact = x.enact })
		m := about(api.MoveOn)
		m.Ends = min(7, x.epoch)
		after := closed(t, p, []api.Motion{m}, active(20), x.epoch)
		if after[0].State != api.MotionPassed || after[0].Due != x.want {
			t.Fatal(x, after)
		}
	}
	for _, epoch := range numbers() {
		for _, enact := range numbers() {
			p := with(func(p *api.Params) { p.Enact = enact })
			m := about(api.MoveOn)
			m.Ends, m.Due = min(epoch, 7), 99
			closed(t, p, []api.Motion{m}, active(20), epoch)
			m.Yes = votes()
			if after := closed(t, p, []api.Motion{m}, active(20), epoch); after[0].Due != 99 {
				t.Fatal(epoch, enact, after)
			}
		}
	}
}

// P23.4: votes of any length.
func TestCloseVotes(t *testing.T) {
	many := slices.Repeat([]uint64{3}, 200)
	for yes := range 30 {
		for _, no := range []int{0, 1, 2, 15, 16, 17, 24, 25, 26, 30} {
			m := about(api.MoveSpend)
			m.Yes, m.No = ones(yes), ones(no)
			p := with(func(p *api.Params) { p.Quorum = 9000 })
			after := closed(t, p, []api.Motion{m}, active(many...), 7)
			if (after[0].State == api.MotionPassed) != (min(yes, 25) > min(no, 25) && min(yes, 25)+min(no, 25) >= 23) {
				t.Fatal(yes, no, after)
			}
		}
	}
	m := about(api.MoveSpend)
	m.Yes, m.No = nil, nil
	if after := closed(t, simple(), []api.Motion{m}, active(20), 7); after[0].State != api.MotionFailed {
		t.Fatal(after)
	}
	m.Yes = []byte{1}
	if after := closed(t, simple(), []api.Motion{m}, active(20), 7); after[0].State != api.MotionPassed {
		t.Fatal(after)
	}
}

// P23.4: several motions at once, each by its own votes; no motions, and no members.
func TestCloseSeveral(t *testing.T) {
	list := several(
		api.MotionOpen, api.MotionOpen, api.MotionPassed, api.MotionOpen, api.MotionDone, api.MotionFailed, api.MotionOpen, 0,
	)
	for i := range list {
		list[i].Ends, list[i].Due = 5+i%2, 50+i
		list[i].Yes, list[i].No = votes(0), votes(1)
	}
	list[3].Yes, list[3].No = votes(1), votes(0)
	list[6].Yes, list[6].No = votes(0, 1), votes()
	members := active(20, 30)
	after := closed(t, simple(), list, members, 5)
	for i, want := range []int{api.MotionFailed, api.MotionOpen, api.MotionPassed, api.MotionOpen, api.MotionDone, api.MotionFailed, api.MotionPassed, 0} {
		if after[i].State != want {
			t.Fatal(i, after)
		}
	}
	if after[6].Due != 6 || after[2].Due != 52 {
		t.Fatal(after)
	}
	after = closed(t, simple(), after, members, 6)
	for i, want := range []int{api.MotionFailed, api.MotionFailed, api.MotionPassed, api.MotionPassed, api.MotionDone, api.MotionFailed, api.MotionPassed, 0} {
		if after[i].State != want {
			t.Fatal(i, after)
		}
	}
	if after[6].Due != 6 || after[3].Due != 7 {
		t.Fatal(after)
	}
	for _, none := range [][]api.Motion{nil, {}} {
		if after := moot.Close(simple(), none, members, 6); len(after) != 0 {
			t.Fatal(after)
		}
		closed(t, simple(), none, nil, 6)
	}
	for i, m := range closed(t, simple(), list, nil, 6) { // Of no members nothing passes.
		if list[i].State == api.MotionOpen && m.State != api.MotionFailed {
			t.Fatal(i, m)
		}
	}
}

// P23.4: parameters that aren't right count by their Quorum and Enact too.
func TestCloseParams(t *testing.T) {
	m := about(api.MoveOn)
	for _, p := range append(wrong(), right()...) {
		closed(t, p, []api.Motion{m}, active(20), 7)
	}
	p := api.Params{Quorum: 3000, Enact: 4}
	if after := closed(t, p, []api.Motion{m}, active(20), 7); after[0].State != api.MotionPassed || after[0].Due != 11 {
		t.Fatal(after)
	}
	p.Quorum = -1
	if after := closed(t, p, []api.Motion{m}, active(20), 7); after[0].State != api.MotionFailed || after[0].Due != 0 {
		t.Fatal(after)
	}
}

// P23.4: what is ripe, of each state, about everything, with a quorum and without one.
func TestRipe(t *testing.T) {
	for _, state := range append(states(), others()...) {
		for _, what := range append(whats(), others()...) {
			for _, due := range numbers() {
				m := about(what)
				m.State, m.Due = state, due
				for _, epoch := range []int{max(due, math.MinInt+1) - 1, due, min(due, math.MaxInt-1) + 1} {
					for _, quorum := range []bool{true, false} {
						got := ripe(t, []api.Motion{m}, epoch, quorum)
						want := state == 2 && due <= epoch && (quorum || what == 3 || what == 4)
						if len(got) > 0 != want {
							t.Fatal(m, epoch, quorum, got)
						}
					}
				}
			}
		}
	}
}

// P23.4: the places of several, in order; none, of no motions.
func TestRipeSeveral(t *testing.T) {
	var list []api.Motion
	for _, state := range []int{api.MotionPassed, api.MotionOpen, api.MotionPassed, api.MotionFailed, api.MotionDone} {
		for _, what := range whats() {
			for due := 9; due > 5; due-- {
				m := about(what)
				m.State, m.Due, m.Ends = state, due, 99
				list = append(list, m)
			}
		}
	}
	for epoch, want := range map[int][2][]int{
		5:  {nil, nil},
		6:  {{11, 15, 43, 47}, {3, 7, 11, 15, 35, 39, 43, 47}},
		8:  {{9, 10, 11, 13, 14, 15, 41, 42, 43, 45, 46, 47}, {1, 2, 3, 5, 6, 7, 9, 10, 11, 13, 14, 15, 33, 34, 35, 37, 38, 39, 41, 42, 43, 45, 46, 47}},
		-1: {nil, nil},
	} {
		if got := ripe(t, list, epoch, false); !slices.Equal(got, want[0]) {
			t.Fatal(epoch, got)
		}
		if got := ripe(t, list, epoch, true); !slices.Equal(got, want[1]) {
			t.Fatal(epoch, got)
		}
	}
	for _, none := range [][]api.Motion{nil, {}, several(api.MotionOpen, api.MotionDone, api.MotionFailed, 0)} {
		for _, quorum := range []bool{true, false} {
			if got := moot.Ripe(none, math.MaxInt, quorum); len(got) != 0 {
				t.Fatal(none, got)
			}
		}
	}
}

// P23.4: what is done, and what couldn't be, of each state; the other motions stay.
func TestFinish(t *testing.T) {
	for _, state := range append(states(), others()...) {
		for _, done := range []bool{true, false} {
			list := several(api.MotionPassed, state, api.MotionPassed)
			after, e := finished(t, list, 1, done)
			if state != api.MotionPassed {
				if e != api.ErrState || after != nil {
					t.Fatal(state, after, e)
				}
				continue
			}
			want := deep(list)
			want[1].State = api.MotionFailed
			if done {
				want[1].State = api.MotionDone
			}
			if e != api.OK || !same(after, want) {
				t.Fatal(state, after, e)
			}
		}
	}
}

// P23.4: places of which there are none.
func TestFinishPlaces(t *testing.T) {
	for n := range 5 {
		list := several(slices.Repeat([]int{api.MotionPassed}, n)...)
		for _, i := range append(numbers(), n-1, n, n+1, -n) {
			for _, done := range []bool{true, false} {
				want := api.OK
				if i < 0 || i >= n {
					want = api.ErrMotion
				}
				if _, e := finished(t, list, i, done); e != want {
					t.Fatal(n, i, e)
				}
			}
		}
	}
	for _, i := range numbers() {
		if after, e := moot.Finish(nil, i, true); e != api.ErrMotion || after != nil {
			t.Fatal(i, after, e)
		}
		if after, e := moot.Finish([]api.Motion{}, i, false); e != api.ErrMotion || after != nil {
			t.Fatal(i, after, e)
		}
	}
	if _, e := finished(t, several(api.MotionOpen), 1, true); e != api.ErrMotion {
		t.Fatal(e)
	}
}

// P23.5: nobody votes twice, for it and against it, behind a vote of either kind.
func TestTwice(t *testing.T) {
	for _, first := range []bool{true, false} {
		list, i, e := moot.Open(simple(), nil, moving(api.MoveOn), 5)
		if e != api.OK {
			t.Fatal(e)
		}
		for member := range api.MaxMembers {
			yes := first == (member%3 > 0)
			after, e := voted(t, list, i, member, yes)
			if e != api.OK {
				t.Fatal(member, e)
			}
			list = after
			for earlier := range member + 1 {
				refused(t, list, i, earlier, api.ErrTwice)
			}
		}
		for k := range list[i].Yes {
			if list[i].Yes[k]^list[i].No[k] != 0xff {
				t.Fatal(list)
			}
		}
	}
}

// P23.5: what is closed again stays as it is, in the same epoch and in all later ones.
func TestCloseAgain(t *testing.T) {
	list := several(api.MotionOpen, api.MotionOpen, api.MotionPassed, api.MotionDone, api.MotionFailed)
	list[0].Yes, list[0].No, list[0].Ends = votes(0), votes(), 7
	list[1].Yes, list[1].No, list[1].Ends = votes(), votes(0), 7
	after := closed(t, simple(), list, active(20, 20), 7)
	if after[0].State != api.MotionPassed || after[1].State != api.MotionFailed {
		t.Fatal(after)
	}
	for _, members := range [][]api.Member{nil, active(20), active(0, 20)} {
		for _, epoch := range []int{6, 7, 8, 1 << 30, math.MaxInt} {
			if again := closed(t, simple(), after, members, epoch); !same(again, after) {
				t.Fatal(epoch, again)
			}
		}
	}
	refused(t, after, 0, 5, api.ErrClosed)
	refused(t, after, 1, 5, api.ErrClosed)
}

// P23.5: what is done, or couldn't be, is never ripe again, nor is it finished again.
func TestDone(t *testing.T) {
	for _, done := range []bool{true, false} {
		list := several(api.MotionPassed, api.MotionPassed, api.MotionPassed)
		for i := range list {
			list[i].What, list[i].Due = api.MoveOn, 7
		}
		for i := range list {
			if got := ripe(t, list, 7, false); len(got) != 3-i || got[0] != i {
				t.Fatal(got)
			}
			after, e := finished(t, list, i, done)
			if e != api.OK {
				t.Fatal(e)
			}
			list = closed(t, simple(), after, active(20), math.MaxInt)
			for _, epoch := range []int{0, 7, 8, math.MaxInt} {
				for _, quorum := range []bool{true, false} {
					if slices.Contains(ripe(t, list, epoch, quorum), i) {
						t.Fatal(i, list)
					}
				}
			}
			for _, again := range []bool{true, false} {
				if _, e := finished(t, list, i, again); e != api.ErrState {
					t.Fatal(e)
				}
			}
			refused(t, list, i, 99, api.ErrClosed)
		}
	}
}

// life is a list of motions that goes through many epochs, and all that it was.
type life struct {
	t       *testing.T
	dice    *rand.Rand
	p       api.Params
	list    []api.Motion
	members []api.Member
	epoch   int
	was     [][]api.Motion // the lists as they were handed out, and
	copies  [][]api.Motion // the same ones elsewhere
}

// becomes takes what was handed out, which has to be right, and as the chapter's words ask.
func (x *life) becomes(after, want []api.Motion) {
	x.t.Helper()
	if !same(after, want) {
		x.t.Fatalf("%v, want %v", after, want)
	}
	for _, m := range after {
		if !moot.Fits(m) {
			x.t.Fatalf("%v", m)
		}
		for i := range m.Yes {
			if m.Yes[i]&m.No[i] != 0 {
				x.t.Fatalf("somebody voted twice: %v", m)
			}
		}
	}
	x.list = after
	x.was, x.copies = append(x.was, after), append(x.copies, deep(after))
}

// move moves something, if there is room.
func (x *life) move() {
	d := moving(whats()[x.dice.Intn(4)])
	after, i, e := moot.Open(x.p, x.list, d, x.epoch)
	want, wantI, wantE := openOf(x.p, x.list, d, x.epoch)
	if i != wantI || e != wantE {
		x.t.Fatal(i, e, wantI, wantE)
	}
	if e == api.OK {
		x.becomes(after, want)
	}
}

// vote votes on something, maybe again.
func (x *life) vote() {
	i, member, yes := x.dice.Intn(len(x.list)+2)-1, x.dice.Intn(len(x.members)), x.dice.Intn(3) > 0
	after, e := moot.Vote(x.list, i, member, yes)
	want, wantE := voteOf(x.list, i, member, yes)
	if e != wantE {
		x.t.Fatal(e, wantE)
	}
	if e == api.OK {
		x.becomes(after, want)
	}
}

// tick closes what ends, and finishes what is ripe.
func (x *life) tick() {
	x.epoch++
	x.becomes(moot.Close(x.p, x.list, x.members, x.epoch), closeOf(x.p, x.list, x.members, x.epoch))
	for _, m := range x.list {
		if m.State == api.MotionOpen && m.Ends <= x.epoch {
			x.t.Fatal(x.epoch, m)
		}
	}
	quorum := x.dice.Intn(3) > 0
	places := moot.Ripe(x.list, x.epoch, quorum)
	if !slices.Equal(places, ripeOf(x.list, x.epoch, quorum)) {
		x.t.Fatal(places)
	}
	for _, i := range places {
		done := x.dice.Intn(2) > 0
		after, e := moot.Finish(x.list, i, done)
		want, wantE := finishOf(x.list, i, done)
		if e != api.OK || wantE != api.OK {
			x.t.Fatal(e, wantE)
		}
		x.becomes(after, want)
	}
	for _, i := range places {
		if slices.Contains(moot.Ripe(x.list, x.epoch, true), i) {
			x.t.Fatal(i, x.list)
		}
	}
}

// P23.1 to P23.5: many motions, votes and epochs: all is as the chapter's words ask, and all lists that were handed out ever stay.
func TestLife(t *testing.T) {
	for seed := range int64(20) {
		x := &life{t: t, dice: rand.New(rand.NewSource(seed)), p: simple()}
		x.p.Poll, x.p.Enact = 1+x.dice.Intn(4), x.dice.Intn(3)
		for range 1 + x.dice.Intn(api.MaxMembers) {
			x.members = append(x.members, api.Member{Standing: api.Standing{Eff: uint64(x.dice.Intn(40))}, Status: 1 + x.dice.Intn(5)})
		}
		for range 400 {
			switch x.dice.Intn(8) {
			case 0:
				x.move()
			case 1:
				x.tick()
			default:
				x.vote()
			}
		}
		for i, list := range x.was {
			if !same(list, x.copies[i]) {
				t.Fatalf("%v is now %v", x.copies[i], list)
			}
		}
	}
}

// P23.1 to P23.4: mixed motions of any numbers, held against the chapter's words.
func TestMixed(t *testing.T) {
	dice := rand.New(rand.NewSource(23))
	pick := func(list []int) int { return list[dice.Intn(len(list))] }
	field := func() []byte {
		b := make([]byte, []int{0, 1, 2, 15, 16, 16, 16, 16, 17}[dice.Intn(9)])
		dice.Read(b)
		return b
	}
	mostly := func(list []int) int {
		if dice.Intn(8) > 0 {
			return pick(list)
		}
		return pick(others())
	}
	for range 1500 {
		list := make([]api.Motion, dice.Intn(40))
		for i := range list {
			list[i] = api.Motion{
				Account: pick(numbers()), What: mostly(whats()), To: pick(numbers()), Amount: dice.Uint64(),
				Ends: pick(numbers()), Due: pick(numbers()), State: mostly(states()[:2]), Yes: field(), No: field(),
			}
		}
		members := make([]api.Member, dice.Intn(140))
		shift := dice.Intn(64)
		for i := range members {
			members[i] = api.Member{Standing: api.Standing{Eff: dice.Uint64() >> shift}, Status: 1 + dice.Intn(5)}
		}
		p := simple()
		p.Quorum, p.Enact = dice.Intn(api.MaxRate), pick(numbers())
		epoch := pick(numbers())
		opened(t, simple(), list, moving(pick(whats())), dice.Intn(api.MaxEpoch))
		voted(t, list, dice.Intn(len(list)+2)-1, dice.Intn(130)-1, dice.Intn(2) > 0)
		closed(t, p, list, members, epoch)
		ripe(t, list, epoch, dice.Intn(2) > 0)
		finished(t, list, dice.Intn(len(list)+2)-1, dice.Intn(2) > 0)
	}
}

// Rule 4: what Ripe hands out is new memory each time.
func TestRipeMemory(t *testing.T) {
	list := several(api.MotionPassed, api.MotionPassed)
	first, second := moot.Ripe(list, math.MaxInt, true), moot.Ripe(list, math.MaxInt, true)
	first = first[:cap(first)]
	for i := range first {
		first[i] = 77
	}
	if !slices.Equal(second, []int{0, 1}) || !slices.Equal(moot.Ripe(list, math.MaxInt, true), []int{0, 1}) {
		t.Fatal(second)
	}
}

// The chapter's example.
func TestExamples(t *testing.T) {
	list, i, e := moot.Open(simple(), nil, moving(api.MoveOn), 5)
	if e != api.OK || i != 0 || list[0].Ends != 7 {
		t.Fatal(list, i, e)
	}
	list, e = moot.Vote(list, 0, 3, true)
	if e != api.OK {
		t.Fatal(e)
	}
	if after, e := moot.Vote(list, 0, 3, false); e != api.ErrTwice || after != nil {
		t.Fatal(after, e)
	}
	if _, e := moot.Vote(list, 0, 3, true); e != api.ErrTwice {
		t.Fatal(e)
	}
}
