package supply_test

import (
	"bytes"
	"math/big"
	"math/rand"
	"reflect"
	"slices"
	"testing"

	"bullion/api"
	"bullion/supply"
)

const (
	top  = 1<<64 - 1
	most = api.MaxMoney
)

// simple are the parameters of the document's examples.
func simple() api.Params {
	return api.Params{
		Inc: 10, MaxEff: 30, Floor: 10, Cap: 40, Up: 10, Down: 5,
		Bias: 4, Quot: 100, BiasEm: 8, QuotEm: 50, Recover: 2, ScoreCap: 100,
		Rate: 1 << 20, Bond: 1, Delay: 2, Streak: 4, Boost: 100, Absent: 100, Burn: 5000,
		Churn: 2, Wait: 2, Poll: 2, Enact: 1, Quorum: 3000,
	}
}

// full is a state that holds, with something in every field: 765 + 60 came, and 25 of it are burned.
func full() api.State {
	one := api.Motion{
		Account: 1, What: api.MoveParams, Params: simple(), To: 1, Amount: 9,
		Ends: 12, Due: 13, State: api.MotionOpen, Yes: []byte{1, 2, 3}, No: []byte{4, 5},
	}
	return api.State{
		Params: simple(), Most: 1 << 30, Genesis: 765, Minted: 60, Burned: 25, Treasury: 50,
		Epoch: 11, Calm: 3, Emergency: true,
		Purses: []uint64{300, 0, 200},
		Members: []api.Member{
			{Standing: api.Standing{Balance: 25, Eff: 20, Score: 8, Streak: 1}, Status: api.StatusActive},
			{Standing: api.Standing{Balance: 40, Eff: 30, Score: 7, Streak: 4}, Owner: 1, Status: api.StatusLeaving},
			{Standing: api.Standing{Balance: 15}, Owner: 2, Status: api.StatusPending},
			{Owner: 1, Status: api.StatusOut},
			{Owner: 2, Status: api.StatusLeft},
		},
		Entry: []int{2}, Exit: []int{1, 5},
		Pool:    []api.Deposit{{Account: 1, Member: 3, Amount: 70}, {Account: 2, Amount: 30, New: true}},
		Dues:    []api.Due{{Account: 1, At: 12, Amount: 40}, {Account: 0, At: 14, Amount: 30}},
		Motions: []api.Motion{one, {Account: 2, What: api.MoveOn, State: api.MotionDone, No: []byte{6}}},
		Marks:   []byte{3, 1}, Ring: [][]byte{{1, 1}, nil, {2, 2, 2}},
	}
}

// changed is a full state that is changed in some way.
func changed(change func(s *api.State)) api.State {
	s := full()
	change(&s)
	return s
}

// staked, pursed, pooled and owed are states in which one part is made of these amounts, of members of every status.
func staked(amounts ...uint64) api.State {
	s := api.State{}
	for i, n := range amounts {
		s.Members = append(s.Members, api.Member{Standing: api.Standing{Balance: n, Eff: top, Score: top}, Owner: -1, Status: i%7 - 1})
	}
	return s
}

func pursed(amounts ...uint64) api.State { return api.State{Purses: amounts} }

func pooled(amounts ...uint64) api.State {
	s := api.State{}
	for i, n := range amounts {
		s.Pool = append(s.Pool, api.Deposit{Account: i - 1, Member: 1 - i, Amount: n, New: i%2 == 0})
	}
	return s
}

func owed(amounts ...uint64) api.State {
	s := api.State{}
	for i, n := range amounts {
		s.Dues = append(s.Dues, api.Due{Account: i - 1, At: 1 - i, Amount: n})
	}
	return s
}

// sums are the four parts that are sums: how each is made, and its number in a sheet.
func sums() []struct {
	state func(amounts ...uint64) api.State
	part  func(x *supply.Sheet) *uint64
} {
	return []struct {
		state func(amounts ...uint64) api.State
		part  func(x *supply.Sheet) *uint64
	}{
		{staked, func(x *supply.Sheet) *uint64 { return &x.Stakes }},
		{pursed, func(x *supply.Sheet) *uint64 { return &x.Purses }},
		{pooled, func(x *supply.Sheet) *uint64 { return &x.Pool }},
		{owed, func(x *supply.Sheet) *uint64 { return &x.Dues }},
	}
}

// held is a state with these parts, each of them all that one has.
func held(x [5]uint64) api.State {
	return api.State{
		Members: staked(x[0]).Members, Purses: []uint64{x[1]}, Pool: pooled(x[2]).Pool, Dues: owed(x[3]).Dues, Treasury: x[4],
	}
}

// sheet is a sheet of these parts.
func sheet(x [5]uint64) supply.Sheet {
	return supply.Sheet{Stakes: x[0], Purses: x[1], Pool: x[2], Dues: x[3], Treasury: x[4]}
}

// whole are numbers together, as whole numbers.
func whole(list ...uint64) *big.Int {
	sum := new(big.Int)
	for _, n := range list {
		sum.Add(sum, new(big.Int).SetUint64(n))
	}
	return sum
}

// above says whether numbers are together above another one.
func above(n uint64, list ...uint64) bool { return whole(list...).Cmp(whole(n)) > 0 }

// amounts are all that is in a state, part by part.
func amounts(s api.State) [5][]uint64 {
	var x [5][]uint64
	for _, m := range s.Members {
		x[0] = append(x[0], m.Balance)
	}
	x[1] = s.Purses
	for _, d := range s.Pool {
		x[2] = append(x[2], d.Amount)
	}
	for _, d := range s.Dues {
		x[3] = append(x[3], d.Amount)
	}
	x[4] = []uint64{s.Treasury}
	return x
}

// partsOf is where all money is, by the chapter's words over whole numbers.
func partsOf(s api.State) (supply.Sheet, api.Errno) {
	var parts [5]uint64
	for i, list := range amounts(s) {
		if above(top, list...) {
			return supply.Sheet{}, api.ErrOver
		}
		parts[i] = whole(list...).Uint64()
	}
	return sheet(parts), api.OK
}

// totalOf is all of it, likewise.
func totalOf(x supply.Sheet) (uint64, api.Errno) {
	sum := whole(x.Stakes, x.Purses, x.Pool, x.Dues, x.Treasury)
	if !sum.IsUint64() {
		return 0, api.ErrOver
	}
	return sum.Uint64(), api.OK
}

// holdsOf says whether all money is accounted for, likewise.
func holdsOf(s api.State) bool {
	x := amounts(s)
	parts := whole(slices.Concat(x[:]...)...)
	came := whole(s.Genesis, s.Minted)
	left := new(big.Int).Sub(came, whole(s.Burned))
	return parts.Cmp(left) == 0 && came.Cmp(whole(s.Most)) <= 0 && s.Most <= most
}

// mintOf is more money, likewise.
func mintOf(s api.State, amount uint64) (api.State, api.Errno) {
	if above(s.Most, s.Genesis, s.Minted, amount) || above(most, s.Genesis, s.Minted, amount) || above(top, s.Treasury, amount) {
		return api.State{}, api.ErrCap
	}
	s.Minted, s.Treasury = s.Minted+amount, s.Treasury+amount
	return s, api.OK
}

// burnOf is less money, likewise.
func burnOf(s api.State, amount uint64) (api.State, api.Errno) {
	if s.Treasury < amount {
		return api.State{}, api.ErrFunds
	}
	if above(top, s.Burned, amount) {
		return api.State{}, api.ErrOver
	}
	s.Burned, s.Treasury = s.Burned+amount, s.Treasury-amount
	return s, api.OK
}

// padded is a list with spare room on both sides, and all the memory in which it stands.
func padded[T any](list []T, guard T) (inner, memory []T) {
	memory = slices.Concat([]T{guard, guard}, list, []T{guard, guard, guard})
	return memory[2 : 2+len(list)], memory
}

// room is a state all of whose lists have spare room, and all the memory in which these stand.
type room struct {
	inner, memory api.State
	raw           [][]byte // the memory of all that is made of bytes
}

func (r *room) pad(b []byte) []byte {
	inner, memory := padded(b, 0x51)
	r.raw = append(r.raw, memory)
	return inner
}

func (r *room) padMotion(m api.Motion) api.Motion {
	m.Yes, m.No = r.pad(m.Yes), r.pad(m.No)
	return m
}

func roomy(s api.State) *room {
	r := &room{inner: s}
	r.inner.Purses, r.memory.Purses = padded(s.Purses, 0x5151)
	r.inner.Members, r.memory.Members = padded(s.Members, api.Member{Standing: api.Standing{Balance: 0x5151}})
	r.inner.Entry, r.memory.Entry = padded(s.Entry, 0x5151)
	r.inner.Exit, r.memory.Exit = padded(s.Exit, 0x5151)
	r.inner.Pool, r.memory.Pool = padded(s.Pool, api.Deposit{Amount: 0x5151})
	r.inner.Dues, r.memory.Dues = padded(s.Dues, api.Due{Amount: 0x5151})
	r.inner.Motions, r.memory.Motions = padded(s.Motions, api.Motion{Amount: 0x5151})
	for i, m := range r.memory.Motions {
		r.memory.Motions[i] = r.padMotion(m)
	}
	r.inner.Ring, r.memory.Ring = padded(s.Ring, nil)
	for i, b := range r.memory.Ring {
		r.memory.Ring[i] = r.pad(b)
	}
	r.inner.Marks = r.pad(s.Marks)
	return r
}

// plain is a state in memory of its own, in which no list is nil.
func plain(s api.State) api.State {
	s.Purses, s.Members = fresh(s.Purses), fresh(s.Members)
	s.Entry, s.Exit = fresh(s.Entry), fresh(s.Exit)
	s.Pool, s.Dues, s.Motions = fresh(s.Pool), fresh(s.Dues), fresh(s.Motions)
	for i, m := range s.Motions {
		s.Motions[i].Yes, s.Motions[i].No = fresh(m.Yes), fresh(m.No)
	}
	s.Marks, s.Ring = fresh(s.Marks), fresh(s.Ring)
	for i, b := range s.Ring {
		s.Ring[i] = fresh(b)
	}
	return s
}

func fresh[T any](list []T) []T { return append(make([]T, 0, len(list)), list...) }

// heads are all lists of bytes that a state holds.
func heads(s api.State) [][]byte {
	list := append([][]byte{s.Marks}, s.Ring...)
	for _, m := range s.Motions {
		list = append(list, m.Yes, m.No)
	}
	return list
}

// same says whether two lists are one, in one memory.
func same(a, b []byte) bool {
	return len(a) == len(b) && cap(a) == cap(b) && (len(a) == 0 || &a[0] == &b[0])
}

// alike says whether two states are the same; a nil list is as empty.
func alike(a, b api.State) bool { return reflect.DeepEqual(plain(a), plain(b)) }

// watch notes how a state is, and answers what asks that it stays so, its spare room too.
func (r *room) watch(t *testing.T) func() {
	inner, memory, raw, list := plain(r.inner), plain(r.memory), plain(api.State{Ring: r.raw}).Ring, heads(r.memory)
	return func() {
		t.Helper()
		if !alike(r.inner, inner) || !alike(r.memory, memory) || !slices.EqualFunc(r.raw, raw, bytes.Equal) || !slices.EqualFunc(heads(r.memory), list, same) {
			t.Fatalf("what was handed in was %+v, and is %+v", inner, r.inner)
		}
	}
}

// fill writes over a list and all its spare room.
func fill[T any](list []T, with T) {
	list = list[:cap(list)]
	for i := range list {
		list[i] = with
	}
}

// spoil writes over all that a state has, what its lists hold ahead of the lists.
func spoil(s api.State) {
	for _, m := range s.Motions[:cap(s.Motions)] {
		fill(m.Yes, 0x77)
		fill(m.No, 0x77)
	}
	for _, b := range s.Ring[:cap(s.Ring)] {
		fill(b, 0x77)
	}
	fill(s.Motions, api.Motion{What: 7, Yes: []byte{7}})
	fill(s.Ring, []byte{7})
	fill(s.Marks, 0x77)
	fill(s.Purses, 0x7777)
	fill(s.Members, api.Member{Status: 0x7777})
	fill(s.Entry, 0x7777)
	fill(s.Exit, 0x7777)
	fill(s.Pool, api.Deposit{Amount: 0x7777})
	fill(s.Dues, api.Due{Amount: 0x7777})
}

// apart asks that no two lists of an answer share memory: each is written over with what is its own.
func apart(t *testing.T, s api.State) {
	t.Helper()
	list := heads(s)
	for i, b := range list {
		fill(b, byte(i))
	}
	for i, b := range list {
		if bytes.Count(b[:cap(b)], []byte{byte(i)}) != cap(b) {
			t.Fatalf("list %d of %d shares memory with another one", i, len(list))
		}
	}
	fill(s.Entry, 1)
	fill(s.Exit, 2)
	if slices.Contains(s.Entry[:cap(s.Entry)], 2) {
		t.Fatal("those that wait to be active and to leave share memory")
	}
}

// parts asks where all money is, of a state with spare room, which stays as it was.
func parts(t *testing.T, s api.State, want supply.Sheet, wantError api.Errno) {
	t.Helper()
	r := roomy(s)
	stays := r.watch(t)
	if x, e := supply.Parts(r.inner); x != want || e != wantError {
		t.Fatalf("the parts are %+v, %d, want %+v, %d", x, e, want, wantError)
	}
	if x, e := supply.Parts(s); x != want || e != wantError {
		t.Fatalf("the parts are %+v, %d, want %+v, %d", x, e, want, wantError)
	}
	stays()
}

// total asks for all of a sheet.
func total(t *testing.T, x supply.Sheet, want uint64, wantError api.Errno) {
	t.Helper()
	if n, e := x.Total(); n != want || e != wantError {
		t.Fatalf("of %+v: %d, %d, want %d, %d", x, n, e, want, wantError)
	}
}

// holds asks whether a state with spare room holds; it stays as it was.
func holds(t *testing.T, s api.State, want bool) {
	t.Helper()
	r := roomy(s)
	stays := r.watch(t)
	if got := supply.Holds(r.inner); got != want {
		t.Fatalf("Holds: %v, want %v, of %+v", got, want, s)
	}
	if holdsOf(s) != want {
		t.Fatalf("by the chapter's words it is not %v, of %+v", want, s)
	}
	stays()
}

// call is Mint or Burn.
type call func(s api.State, amount uint64) (api.State, api.Errno)

// gives asks that a call answers just this state, in new memory, and that what was handed in stays, spare room too.
func gives(t *testing.T, do call, s api.State, amount uint64, want api.State) {
	t.Helper()
	r := roomy(s)
	stays := r.watch(t)
	want = plain(want)
	got, e := do(r.inner, amount)
	if e != api.OK || !alike(got, want) {
		t.Fatalf("%d of %+v: %+v, %d, want %+v", amount, s, got, e, want)
	}
	again, e := do(r.inner, amount)
	apart(t, got)
	spoil(got)
	stays()
	if e != api.OK || !alike(again, want) {
		t.Fatalf("%d of %+v, told again: %+v, %d, want %+v", amount, s, again, e, want)
	}
	spoil(r.memory)
	for _, b := range r.raw {
		fill(b, 0x66)
	}
	if !alike(again, want) {
		t.Fatalf("%d of %+v: what was handed in is handed out: %+v", amount, s, again)
	}
}

// refuses asks that a call answers an error and no state, and that what was handed in stays, spare room too.
func refuses(t *testing.T, do call, s api.State, amount uint64, want api.Errno) {
	t.Helper()
	r := roomy(s)
	stays := r.watch(t)
	if got, e := do(r.inner, amount); e != want || !reflect.DeepEqual(got, api.State{}) {
		t.Fatalf("%d of %+v: %+v, %d, want %d", amount, s, got, e, want)
	}
	stays()
}

// does asks that a call answers what the chapter's words ask for.
func does(t *testing.T, do, model call, s api.State, amount uint64) {
	t.Helper()
	want, e := model(s, amount)
	if e != api.OK {
		refuses(t, do, s, amount, e)
		return
	}
	gives(t, do, s, amount, want)
}

// minted and burned ask for a mint and a burn that are done.
func minted(t *testing.T, s api.State, amount uint64) {
	t.Helper()
	want := s
	want.Minted, want.Treasury = s.Minted+amount, s.Treasury+amount
	gives(t, supply.Mint, s, amount, want)
}

func burned(t *testing.T, s api.State, amount uint64) {
	t.Helper()
	want := s
	want.Burned, want.Treasury = s.Burned+amount, s.Treasury-amount
	gives(t, supply.Burn, s, amount, want)
}

// P21.1: what balances, purses, deposits, dues and the treasury are, each together.
func TestParts(t *testing.T) {
	parts(t, full(), supply.Sheet{Stakes: 80, Purses: 500, Pool: 100, Dues: 70, Treasury: 50}, api.OK)
	parts(t, api.State{}, supply.Sheet{}, api.OK)
	parts(t, plain(api.State{}), supply.Sheet{}, api.OK)
	// What is not money, and where money came from, is none of it.
	s := api.State{
		Params: simple(), Most: top, Genesis: top, Minted: top, Burned: top, Epoch: 1, Calm: 1, Emergency: true,
		Entry: []int{1}, Exit: []int{2}, Motions: full().Motions, Marks: []byte{1}, Ring: [][]byte{{1}},
	}
	parts(t, s, supply.Sheet{}, api.OK)
	for _, n := range []uint64{0, 1, most - 1, most, most + 1, top - 1, top} {
		parts(t, api.State{Treasury: n}, supply.Sheet{Treasury: n}, api.OK)
	}
}

// P21.1: each part is what all of its own list are together, and is 0 where that has none.
func TestPartsOneByOne(t *testing.T) {
	for _, one := range sums() {
		for n := range 12 {
			list := make([]uint64, n)
			var want supply.Sheet
			for i := range list {
				list[i] = 3 << (5 * i)
				*one.part(&want) += list[i]
			}
			parts(t, one.state(list...), want, api.OK)
		}
		var many supply.Sheet
		*one.part(&many) = 5 * 1000
		parts(t, one.state(slices.Repeat([]uint64{5}, 1000)...), many, api.OK)
	}
	lacks := []func(s *api.State, x *supply.Sheet){
		func(s *api.State, x *supply.Sheet) { s.Members, x.Stakes = nil, 0 },
		func(s *api.State, x *supply.Sheet) { s.Members, x.Stakes = []api.Member{}, 0 },
		func(s *api.State, x *supply.Sheet) { s.Purses, x.Purses = nil, 0 },
		func(s *api.State, x *supply.Sheet) { s.Purses, x.Purses = []uint64{}, 0 },
		func(s *api.State, x *supply.Sheet) { s.Pool, x.Pool = nil, 0 },
		func(s *api.State, x *supply.Sheet) { s.Pool, x.Pool = []api.Deposit{}, 0 },
		func(s *api.State, x *supply.Sheet) { s.Dues, x.Dues = nil, 0 },
		func(s *api.State, x *supply.Sheet) { s.Dues, x.Dues = []api.Due{}, 0 },
	}
	for _, lack := range lacks {
		s, x := full(), supply.Sheet{Stakes: 80, Purses: 500, Pool: 100, Dues: 70, Treasury: 50}
		lack(&s, &x)
		parts(t, s, x, api.OK)
	}
}

// P21.1: a member's balance is a part of it whatever its status is, and nothing else that it has is.
func TestPartsOfEveryStatus(t *testing.T) {
	var members []api.Member
	var sum uint64
	for i, status := range []int{-1 << 63, -1, 0, api.StatusPending, api.StatusActive, api.StatusLeaving, api.StatusOut, api.StatusLeft, 6, 1<<63 - 1} {
		m := api.Member{Standing: api.Standing{Balance: 7 << (4 * i), Eff: top, Score: top, Streak: -5}, Owner: 1 << 40, Status: status}
		parts(t, api.State{Members: []api.Member{m}}, supply.Sheet{Stakes: m.Balance}, api.OK)
		members, sum = append(members, m), sum+m.Balance
	}
	parts(t, api.State{Members: members}, supply.Sheet{Stakes: sum}, api.OK)
}

// edges are lists of amounts that are together just 2^64 - 1, each with places at which one more is one too many.
func edges() []struct {
	list   []uint64
	places []int
} {
	small := slices.Repeat([]uint64{1 << 56}, 256)
	small[255]--
	return []struct {
		list   []uint64
		places []int
	}{
		{[]uint64{top, 0, 0}, []int{1, 2}},
		{[]uint64{0, top, 0}, []int{0, 2}},
		{[]uint64{0, 0, top}, []int{0, 1}},
		{[]uint64{top - 2, 1, 1}, []int{0, 1, 2}},
		{[]uint64{1, top - 2, 1}, []int{0, 1, 2}},
		{[]uint64{1, 1, top - 2}, []int{0, 1, 2}},
		{[]uint64{1 << 63, 1<<63 - 1}, []int{0, 1}},
		{[]uint64{most, most, most, most - 1}, []int{0, 1, 2, 3}},
		{small, []int{0, 1, 100, 254, 255}},
	}
}

// P21.1: a part is at most 2^64 - 1; the other parts are as they are beside one that is large, and nothing is answered beside an error.
func TestPartsAtTheEnd(t *testing.T) {
	for _, one := range sums() {
		for _, edge := range edges() {
			want := supply.Sheet{}
			*one.part(&want) = top
			parts(t, one.state(edge.list...), want, api.OK)
			for _, place := range edge.places {
				list := slices.Clone(edge.list)
				list[place]++
				parts(t, one.state(list...), supply.Sheet{}, api.ErrOver)
			}
		}
		for _, list := range [][]uint64{{top, top}, {1 << 63, 1 << 63}, {top, 1, top}, {1 << 63, 1 << 63, 5}, slices.Repeat([]uint64{top}, 300)} {
			parts(t, one.state(list...), supply.Sheet{}, api.ErrOver)
		}
	}
}

// P21.1: parts that are each 2^64 - 1 at most are told, also where they are together above it.
func TestPartsBesideEachOther(t *testing.T) {
	small := [5]uint64{1, 2, 3, 4, 5}
	for i := range small {
		x := small
		x[i] = top
		parts(t, held(x), sheet(x), api.OK)
	}
	parts(t, held([5]uint64{top, top, top, top, top}), supply.Sheet{Stakes: top, Purses: top, Pool: top, Dues: top, Treasury: top}, api.OK)
	parts(t, changed(func(s *api.State) { s.Members[4].Balance = top }), supply.Sheet{}, api.ErrOver)
	parts(t, changed(func(s *api.State) { s.Purses[1] = top }), supply.Sheet{}, api.ErrOver)
	parts(t, changed(func(s *api.State) { s.Pool[0].Amount = top }), supply.Sheet{}, api.ErrOver)
	parts(t, changed(func(s *api.State) { s.Dues[0].Amount = top }), supply.Sheet{}, api.ErrOver)
	parts(t, changed(func(s *api.State) { s.Treasury = top }), supply.Sheet{Stakes: 80, Purses: 500, Pool: 100, Dues: 70, Treasury: top}, api.OK)
}

// P21.1: all parts together.
func TestTotal(t *testing.T) {
	total(t, supply.Sheet{}, 0, api.OK)
	total(t, supply.Sheet{Stakes: 80, Purses: 500, Pool: 100, Dues: 70, Treasury: 50}, 800, api.OK)
	total(t, sheet([5]uint64{1, 20, 300, 4000, 50000}), 54321, api.OK)
	for i := range 5 {
		for _, n := range []uint64{1, 2, most, most + 1, top - 1, top} {
			x := [5]uint64{}
			x[i] = n
			total(t, sheet(x), n, api.OK)
			for j := range 5 {
				y := x
				y[j]++
				if i != j && n == top {
					total(t, sheet(y), 0, api.ErrOver)
				} else if i != j {
					total(t, sheet(y), n+1, api.OK)
				}
			}
		}
	}
}

// P21.1: they are together at most 2^64 - 1.
func TestTotalAtTheEnd(t *testing.T) {
	for i := range 5 {
		x := [5]uint64{1, 2, 3, 4, 5}
		x[i] = 0
		x[i] = top - (x[0] + x[1] + x[2] + x[3] + x[4])
		total(t, sheet(x), top, api.OK)
		for j := range 5 {
			y := x
			y[j]++
			total(t, sheet(y), 0, api.ErrOver)
			y[j] -= 2
			total(t, sheet(y), top-1, api.OK)
		}
	}
	const fifth = top / 5
	total(t, sheet([5]uint64{fifth, fifth, fifth, fifth, fifth}), top, api.OK)
	for _, x := range [][5]uint64{{top, top, top, top, top}, {1 << 63, 1 << 63}, {0, 0, 0, 1 << 63, 1 << 63}, {top, 1, 0, 0, 7}, {most, most, most, most, 0}} {
		total(t, sheet(x), 0, api.ErrOver)
	}
}

// P21.2: the parts are together just what came, less what is burned, whichever of them has a coin too few or too many.
func TestHolds(t *testing.T) {
	holds(t, full(), true)
	holds(t, api.State{}, true)
	holds(t, plain(api.State{}), true)
	coins := []func(s *api.State) *uint64{
		func(s *api.State) *uint64 { return &s.Genesis },
		func(s *api.State) *uint64 { return &s.Minted },
		func(s *api.State) *uint64 { return &s.Burned },
		func(s *api.State) *uint64 { return &s.Treasury },
		func(s *api.State) *uint64 { return &s.Purses[0] },
		func(s *api.State) *uint64 { return &s.Purses[2] },
		func(s *api.State) *uint64 { return &s.Members[0].Balance },
		func(s *api.State) *uint64 { return &s.Members[1].Balance },
		func(s *api.State) *uint64 { return &s.Members[2].Balance },
		func(s *api.State) *uint64 { return &s.Pool[0].Amount },
		func(s *api.State) *uint64 { return &s.Pool[1].Amount },
		func(s *api.State) *uint64 { return &s.Dues[0].Amount },
		func(s *api.State) *uint64 { return &s.Dues[1].Amount },
	}
	for i, coin := range coins {
		holds(t, changed(func(s *api.State) { *coin(s)++ }), false)
		holds(t, changed(func(s *api.State) { *coin(s)-- }), false)
		for _, other := range coins[3:] {
			// A coin that lies elsewhere is no coin less.
			holds(t, changed(func(s *api.State) { *coin(s)++; *other(s)-- }), i >= 2)
			holds(t, changed(func(s *api.State) { *coin(s)++; *other(s)++ }), i < 2)
		}
	}
}

// P21.2: what is no money has no say, nor has a member's status.
func TestHoldsWhateverElse(t *testing.T) {
	others := []func(s *api.State){
		func(s *api.State) { s.Params = api.Params{} },
		func(s *api.State) { s.Epoch, s.Calm, s.Emergency = -1, -1<<63, false },
		func(s *api.State) { s.Entry, s.Exit, s.Motions, s.Marks, s.Ring = nil, nil, nil, nil, nil },
		func(s *api.State) { s.Members[0].Eff, s.Members[0].Score = top, top },
		func(s *api.State) { s.Members[0].Status = api.StatusOut },
		func(s *api.State) { s.Members[1].Status = api.StatusLeft },
		func(s *api.State) { s.Members[2].Status = -9 },
		func(s *api.State) { s.Dues[0].At, s.Dues[1].Account, s.Pool[0].Account = -1, -1, 1<<40 },
		func(s *api.State) { s.Most = 825 },
		func(s *api.State) { s.Purses = append(s.Purses, make([]uint64, 500)...) },
	}
	for _, other := range others {
		holds(t, changed(other), true)
	}
}

// P21.2: parts that are together above 2^64 - 1, or one that is so by itself, are never what there is, also where a sum that wraps round were it.
func TestHoldsOfTooMuch(t *testing.T) {
	for i := range 5 {
		for j := range i {
			x := [5]uint64{}
			x[i], x[j] = 1<<63, 1<<63
			s := held(x)
			s.Most, s.Genesis = most, 0
			holds(t, s, false)
			s.Treasury += 9
			s.Genesis = 9
			holds(t, s, false)
			s.Genesis = most
			holds(t, s, false)
		}
	}
	for _, one := range sums() {
		for _, rest := range []uint64{0, 1, 10} {
			s := one.state(top, 1, rest)
			s.Most, s.Genesis = most, rest
			holds(t, s, false)
		}
		s := one.state(top)
		s.Most, s.Genesis = top, top
		holds(t, s, false)
	}
}

// P21.2: what is burned is at most all that came, since what is left is no less than nothing.
func TestHoldsOfBurned(t *testing.T) {
	for _, n := range []struct {
		burned, treasury uint64
		want             bool
	}{
		{0, 15, true}, {0, 14, false}, {0, 16, false}, {1, 14, true}, {14, 1, true}, {15, 0, true}, {15, 1, false},
		{16, 0, false}, {16, top, false}, {16, 1, false}, {17, top - 1, false}, {30, 15, false}, {top, 0, false}, {top, 16, false}, {top, 1, false},
		{15 + 1<<63, 1 << 63, false},
	} {
		holds(t, api.State{Most: most, Genesis: 10, Minted: 5, Burned: n.burned, Treasury: n.treasury}, n.want)
	}
	holds(t, api.State{Most: most, Genesis: most, Burned: most}, true)
	holds(t, api.State{Most: most, Minted: most, Burned: most + 1}, false)
}

// P21.2: what came is at most Most, and that is at most MaxMoney.
func TestHoldsUpToMost(t *testing.T) {
	for _, limit := range []uint64{0, 1, 2, 800, most - 1, most, most + 1, 1 << 63, top - 1, top} {
		for _, came := range []uint64{limit - 1, limit, limit + 1} {
			for _, genesis := range []uint64{0, 1, came / 2, came - 1, came} {
				if genesis > came {
					continue
				}
				s := api.State{Most: limit, Genesis: genesis, Minted: came - genesis, Treasury: came}
				want := came <= limit && limit <= most
				holds(t, s, want)
				if came > 0 {
					s.Burned, s.Treasury = came, 0
					holds(t, s, want)
				}
			}
		}
	}
	for _, s := range []api.State{
		{Most: most, Genesis: top, Minted: 1},
		{Most: most, Genesis: 1 << 63, Minted: 1 << 63},
		{Most: top, Genesis: top, Minted: top, Treasury: top - 1},
		{Most: most, Genesis: top, Minted: 11, Treasury: 10},
		{Most: top, Genesis: top, Minted: 1, Burned: 1, Treasury: top},
	} {
		holds(t, s, false)
	}
}

// P21.3: a mint is up to Most, and up to MaxMoney where Most is above it.
func TestMint(t *testing.T) {
	for _, n := range []uint64{0, 1, 7, 1<<30 - 825 - 1, 1<<30 - 825} {
		minted(t, full(), n)
	}
	for _, n := range []uint64{1<<30 - 825 + 1, 1 << 30, most - 825, most, 1 << 63, top - 825, top - 824, top - 59, top} {
		refuses(t, supply.Mint, full(), n, api.ErrCap)
	}
	for _, limit := range []uint64{0, 1, 20, most - 1, most, most + 1, 1 << 63, top - 1, top} {
		least := min(limit, most)
		for _, came := range []uint64{0, 1, least / 2, least - 1, least} {
			if came > least {
				continue
			}
			for _, s := range []api.State{{Most: limit, Genesis: came}, {Most: limit, Minted: came}, {Most: limit, Genesis: came / 3, Minted: came - came/3, Burned: top}} {
				left := least - came
				minted(t, s, left)
				minted(t, s, 0)
				minted(t, s, left/2)
				refuses(t, supply.Mint, s, left+1, api.ErrCap)
				refuses(t, supply.Mint, s, top, api.ErrCap)
			}
		}
	}
}

// P21.3: what came already may be more than Most, or more than numbers go, and then nothing is minted, not even nothing.
func TestMintOfTooMuch(t *testing.T) {
	for _, s := range []api.State{
		{Most: 10, Genesis: 11},
		{Most: 10, Minted: 11},
		{Most: 10, Genesis: 5, Minted: 6},
		{Most: top, Genesis: most, Minted: 1},
		{Most: top, Genesis: 1, Minted: most},
		{Most: top, Genesis: top},
		{Most: top, Genesis: top, Minted: 1},
		{Most: top, Genesis: 1 << 63, Minted: 1 << 63},
		{Most: most, Genesis: top, Minted: 7},
		{Most: top, Genesis: top, Minted: top},
	} {
		for _, n := range []uint64{0, 1, 2, top - 1, top} {
			refuses(t, supply.Mint, s, n, api.ErrCap)
		}
	}
	// A sum that wraps round were small enough.
	refuses(t, supply.Mint, api.State{Most: top, Genesis: 5, Minted: 5}, top-9, api.ErrCap)
	refuses(t, supply.Mint, api.State{Most: top, Genesis: 5, Minted: 5}, top-4, api.ErrCap)
	refuses(t, supply.Mint, api.State{Most: top, Genesis: most, Minted: most}, 1<<63, api.ErrCap)
}

// P21.3: the treasury has at most 2^64 - 1 behind a mint.
func TestMintIntoTheTreasury(t *testing.T) {
	for _, n := range []uint64{0, 1, 9, most - 1, most} {
		minted(t, api.State{Most: most, Treasury: top - n}, n)
		refuses(t, supply.Mint, api.State{Most: most - 1, Treasury: top - n}, n+1, api.ErrCap)
		refuses(t, supply.Mint, api.State{Most: top, Treasury: top - n}, n+1, api.ErrCap)
		minted(t, changed(func(s *api.State) { s.Most, s.Treasury = most, top-min(n, most-825) }), min(n, most-825))
		refuses(t, supply.Mint, changed(func(s *api.State) { s.Most, s.Treasury = most, top-n }), n+1, api.ErrCap)
	}
}

// P21.3: no more is burned than the treasury has, and Burned is at most 2^64 - 1; that there is too little goes first.
func TestBurn(t *testing.T) {
	for _, n := range []uint64{0, 1, 7, 49, 50} {
		burned(t, full(), n)
	}
	for _, n := range []uint64{51, 52, 800, most, 1 << 63, top - 25, top - 24, top} {
		refuses(t, supply.Burn, full(), n, api.ErrFunds)
	}
	for _, has := range []uint64{0, 1, 2, most, 1 << 63, top - 1, top} {
		s := api.State{Treasury: has}
		burned(t, s, 0)
		burned(t, s, has/2)
		burned(t, s, has)
		if has > 0 {
			burned(t, s, has-1)
			// What is burned already has no end below that of numbers.
			burned(t, api.State{Treasury: has, Burned: top - has}, has)
			refuses(t, supply.Burn, api.State{Treasury: has, Burned: top - has + 1}, has, api.ErrOver)
			refuses(t, supply.Burn, api.State{Treasury: has, Burned: top}, 1, api.ErrOver)
		}
		if has < top {
			refuses(t, supply.Burn, s, has+1, api.ErrFunds)
			refuses(t, supply.Burn, s, top, api.ErrFunds)
			refuses(t, supply.Burn, api.State{Treasury: has, Burned: top}, has+1, api.ErrFunds)
			refuses(t, supply.Burn, api.State{Treasury: has, Burned: top - has}, has+1, api.ErrFunds)
		}
		burned(t, api.State{Treasury: has, Burned: top}, 0)
	}
	refuses(t, supply.Burn, changed(func(s *api.State) { s.Burned = top - 49 }), 50, api.ErrOver)
	refuses(t, supply.Burn, changed(func(s *api.State) { s.Burned = top }), 51, api.ErrFunds)
}

// P21.3: every other field is as it was, also where lists are nil, empty, or longer than the ledger has them.
func TestEverythingElseStays(t *testing.T) {
	motions := slices.Repeat(full().Motions, 40)
	states := []api.State{
		full(), {Treasury: 9, Most: 99}, plain(api.State{Treasury: 9, Most: 99}),
		changed(func(s *api.State) { s.Params, s.Epoch, s.Calm, s.Emergency = api.Params{Inc: top}, -1<<63, -7, false }),
		changed(func(s *api.State) { s.Motions[0].Yes, s.Motions[0].No = nil, []byte{} }),
		changed(func(s *api.State) { s.Motions, s.Ring, s.Marks = nil, [][]byte{nil}, nil }),
		changed(func(s *api.State) { s.Motions, s.Ring = motions, slices.Repeat(s.Ring, 30) }),
		changed(func(s *api.State) { s.Purses, s.Members = make([]uint64, 500), make([]api.Member, 500) }),
		changed(func(s *api.State) { s.Entry, s.Exit = []int{-1, 1 << 40, -1}, make([]int, 500) }),
		changed(func(s *api.State) { s.Pool, s.Dues = make([]api.Deposit, 500), make([]api.Due, 500) }),
		changed(func(s *api.State) { s.Purses, s.Pool = []uint64{top, top}, pooled(top, top).Pool }),
	}
	for _, s := range states {
		for _, n := range []uint64{0, 1, 9} {
			minted(t, s, n)
			burned(t, s, n)
		}
		refuses(t, supply.Mint, s, top, api.ErrCap)
		refuses(t, supply.Burn, s, top, api.ErrFunds)
	}
}

// P21.4: what holds, holds behind each of many mints and burns, up to Most; with a coin more or less anywhere it doesn't.
func TestHoldsBehindMintAndBurn(t *testing.T) {
	r := rand.New(rand.NewSource(21))
	starts := []api.State{
		full(), {}, {Most: most}, {Most: most, Genesis: most, Treasury: most}, {Most: 3, Genesis: 2, Purses: []uint64{1, 1}},
		changed(func(s *api.State) { s.Most = 825 + 100 }),
	}
	for _, s := range starts {
		for range 60 {
			room := s.Most - s.Genesis - s.Minted
			for _, n := range []uint64{0, 1, room / 2, room, room + 1, r.Uint64()} {
				s = behind(t, supply.Mint, mintOf, s, n%(room+2))
				if r.Intn(3) == 0 {
					break
				}
			}
			for _, n := range []uint64{0, 1, s.Treasury / 2, s.Treasury, s.Treasury + 1, r.Uint64()} {
				s = behind(t, supply.Burn, burnOf, s, n%(s.Treasury+2))
				if r.Intn(3) == 0 {
					break
				}
			}
		}
	}
}

// behind is a state that holds behind a call that is done or refused, and that one coin makes wrong.
func behind(t *testing.T, do, model call, s api.State, amount uint64) api.State {
	t.Helper()
	want, wantError := model(s, amount)
	got, e := do(s, amount)
	if e != wantError || !alike(got, want) {
		t.Fatalf("%d of %+v: %+v, %d, want %+v, %d", amount, s, got, e, want, wantError)
	}
	if e != api.OK {
		got = s
	}
	holds(t, got, true)
	for _, change := range []func(s *api.State){
		func(s *api.State) { s.Genesis++ },
		func(s *api.State) { s.Minted++ },
		func(s *api.State) { s.Minted-- },
		func(s *api.State) { s.Burned++ },
		func(s *api.State) { s.Burned-- },
		func(s *api.State) { s.Treasury++ },
		func(s *api.State) { s.Treasury-- },
		func(s *api.State) { s.Purses = append(s.Purses, 1) },
	} {
		wrong := plain(got)
		change(&wrong)
		holds(t, wrong, false)
	}
	return got
}

// P21.1 to P21.4: mixed states are as the chapter's words ask, held against whole numbers.
func TestMixed(t *testing.T) {
	r := rand.New(rand.NewSource(2121))
	few := []uint64{0, 0, 0, 1, 2, 3, 9, most - 1, most, most + 1, 1<<63 - 1, 1 << 63, top - 1, top}
	small := false
	pick := func() uint64 {
		switch {
		case small:
			return uint64(r.Intn(20))
		case r.Intn(3) == 0:
			return r.Uint64() >> r.Intn(64)
		}
		return few[r.Intn(len(few))]
	}
	list := func() []uint64 {
		out := make([]uint64, r.Intn(4))
		for i := range out {
			out[i] = pick()
		}
		return out
	}
	held := 0
	for range 4000 {
		small = r.Intn(2) == 0
		s := api.State{
			Most: max(pick(), few[r.Intn(len(few))]), Genesis: pick(), Minted: pick(), Burned: pick(), Treasury: pick(),
			Members: staked(list()...).Members, Purses: list(), Pool: pooled(list()...).Pool, Dues: owed(list()...).Dues,
			Motions: full().Motions, Ring: full().Ring,
		}
		if small {
			s.Genesis += 300
		}
		x, e := partsOf(s)
		parts(t, s, x, e)
		if n, f := totalOf(x); e == api.OK {
			total(t, x, n, f)
			came := whole(s.Genesis, s.Minted)
			if left := new(big.Int).Sub(came, whole(n-s.Treasury, s.Burned)); f == api.OK && left.IsUint64() {
				// By chance alone hardly any would hold.
				s.Treasury = left.Uint64()
			}
		}
		holds(t, s, holdsOf(s))
		if holdsOf(s) {
			held++
		}
		n := pick()
		does(t, supply.Mint, mintOf, s, n)
		does(t, supply.Burn, burnOf, s, n)
	}
	if held < 100 {
		t.Fatalf("only %d of the states held", held)
	}
}

// The chapter's example.
func TestExamples(t *testing.T) {
	s := api.State{Most: 1 << 30, Genesis: 10, Purses: []uint64{4}, Treasury: 6}
	holds(t, s, true)
	parts(t, s, supply.Sheet{Purses: 4, Treasury: 6}, api.OK)
	total(t, supply.Sheet{Purses: 4, Treasury: 6}, 10, api.OK)
	holds(t, api.State{Most: 10, Genesis: 10, Purses: []uint64{1, 3}, Treasury: 6}, true)
}
