package state_test

import (
	"math"
	"reflect"
	"slices"
	"testing"

	"bullion/api"
	"bullion/param"
	"bullion/state"
)

const (
	top      = 1<<64 - 1
	mostTime = 1<<31 - 1
)

// simple are the parameters of the document's examples.
func simple() api.Params {
	return api.Params{
		Inc: 10, MaxEff: 30, Floor: 10, Cap: 40, Up: 10, Down: 5,
		Bias: 4, Quot: 100, BiasEm: 8, QuotEm: 50, Recover: 2, ScoreCap: 100,
		Rate: 1 << 20, Bond: 1, Delay: 2, Streak: 4, Boost: 100, Absent: 100, Burn: 5000,
		Churn: 2, Wait: 2, Poll: 2, Enact: 1, Quorum: 3000,
	}
}

// with are those, changed in some way.
func with(change func(p *api.Params)) api.Params {
	p := simple()
	change(&p)
	return p
}

// wrong are parameters that aren't right: nothing at all, each number beyond its limit, and what doesn't go together.
func wrong(t *testing.T) []api.Params {
	t.Helper()
	list := []api.Params{{}}
	for i := range reflect.TypeFor[api.Params]().NumField() {
		list = append(list, with(func(p *api.Params) {
			if f := reflect.ValueOf(p).Elem().Field(i); f.CanUint() {
				f.SetUint(top)
			} else {
				f.SetInt(math.MaxInt)
			}
		}))
	}
	list = append(list,
		with(func(p *api.Params) { p.Inc = 0 }),
		with(func(p *api.Params) { p.MaxEff = 31 }),
		with(func(p *api.Params) { p.Floor = 9 }),
		with(func(p *api.Params) { p.Cap = 29 }),
		with(func(p *api.Params) { p.Up = 9 }),
		with(func(p *api.Params) { p.Bias = 0 }),
		with(func(p *api.Params) { p.ScoreCap = 47 }),
		with(func(p *api.Params) { p.Delay = -1 }),
		with(func(p *api.Params) { p.Wait = api.MaxWait + 1 }),
		with(func(p *api.Params) { p.Poll = 0 }),
		with(func(p *api.Params) { p.Churn = 0 }),
	)
	for _, p := range list {
		if param.Check(p) != api.ErrParam {
			t.Fatalf("it is right: %+v", p)
		}
	}
	return list
}

// genesis is the document's example.
func genesis() api.Genesis {
	return api.Genesis{
		Params: simple(), Most: 1 << 30, Purses: []uint64{500, 200},
		Founders: []api.Founder{{Owner: 0, Balance: 25}, {Owner: 1, Balance: 40}},
	}
}

// other is that, changed in some way.
func other(change func(g *api.Genesis)) api.Genesis {
	g := genesis()
	change(&g)
	return g
}

// founders are so many, of these balances in turn, each of the accounts in turn.
func founders(n, accounts int, balances ...uint64) []api.Founder {
	var list []api.Founder
	for i := range n {
		list = append(list, api.Founder{Owner: i % accounts, Balance: balances[i%len(balances)]})
	}
	return list
}

// P24.1: the state of the document's genesis, in each of its fields.
func TestNew(t *testing.T) {
	s := begins(t, genesis())
	want := api.State{
		Params: simple(), Most: 1 << 30, Genesis: 765,
		Purses: []uint64{500, 200},
		Members: []api.Member{
			{Standing: api.Standing{Balance: 25, Eff: 20}, Owner: 0, Status: api.StatusActive},
			{Standing: api.Standing{Balance: 40, Eff: 30}, Owner: 1, Status: api.StatusActive},
		},
		Marks: make([]byte, 16),
	}
	if !alike(s, want) {
		t.Fatalf("%+v", s)
	}
}

// P24.1: parameters that aren't right, and others that are.
func TestNewParams(t *testing.T) {
	for _, p := range wrong(t) {
		refused(t, other(func(g *api.Genesis) { g.Params = p }))
		refused(t, other(func(g *api.Genesis) { g.Params, g.Founders = p, nil }))
	}
	for _, p := range []api.Params{
		with(func(p *api.Params) { p.Delay, p.Wait = 0, 0 }),
		with(func(p *api.Params) { p.Inc, p.MaxEff, p.Up = 5, 5, 5 }),
	} {
		s := begins(t, other(func(g *api.Genesis) { g.Params = p }))
		if s.Params != p || s.Members[1].Eff != p.MaxEff {
			t.Fatalf("%+v", s)
		}
	}
}

// P24.1: Most is at most MaxMoney.
func TestNewMost(t *testing.T) {
	if s := begins(t, other(func(g *api.Genesis) { g.Most = api.MaxMoney })); s.Most != api.MaxMoney {
		t.Fatal(s.Most)
	}
	for _, most := range []uint64{api.MaxMoney + 1, 1 << 63, top} {
		refused(t, other(func(g *api.Genesis) { g.Most = most }))
	}
}

// P24.1: how many purses there may be.
func TestNewPurses(t *testing.T) {
	for n, right := range map[int]bool{0: false, 1: true, 2: true, api.MaxAccounts: true, api.MaxAccounts + 1: false, 1000: false} {
		g := other(func(g *api.Genesis) {
			g.Purses, g.Founders = slices.Repeat([]uint64{3}, n), founders(3, max(n, 1), 11, 40)
		})
		if !right {
			refused(t, g)
			refused(t, other(func(g *api.Genesis) { g.Purses, g.Founders = slices.Repeat([]uint64{3}, n), nil }))
			continue
		}
		if s := begins(t, g); len(s.Purses) != n || s.Genesis != uint64(3*n+62) {
			t.Fatalf("%+v", s)
		}
	}
	for _, purses := range [][]uint64{nil, {}} {
		refused(t, other(func(g *api.Genesis) { g.Purses = purses }))
		refused(t, other(func(g *api.Genesis) { g.Purses, g.Founders = purses, nil }))
	}
	begins(t, other(func(g *api.Genesis) { g.Purses = []uint64{0, 0} }))
}

// P24.1: how many founders there may be.
func TestNewFounders(t *testing.T) {
	for n, right := range map[int]bool{0: true, 1: true, api.MaxMembers: true, api.MaxMembers + 1: false, 5000: false} {
		g := other(func(g *api.Genesis) { g.Founders = founders(n, 2, 11, 25, 40) })
		if !right {
			refused(t, g)
			continue
		}
		s := begins(t, g)
		if len(s.Members) != n {
			t.Fatal(n, len(s.Members))
		}
		for i, m := range s.Members {
			if m.Eff != []uint64{10, 20, 30}[i%3] || m.Owner != i%2 || m.Status != api.StatusActive {
				t.Fatalf("%+v", m)
			}
		}
	}
	begins(t, other(func(g *api.Genesis) { g.Founders = []api.Founder{} }))
}

// P24.1: each founder's owner is a purse's place, wherever the founder stands.
func TestNewOwners(t *testing.T) {
	for owner, right := range map[int]bool{
		-1: false, 0: true, 1: true, 2: true, 3: false, api.MaxAccounts - 1: false, 1 << 32: false, math.MinInt: false, math.MaxInt: false,
	} {
		for i := range 3 {
			g := other(func(g *api.Genesis) { g.Purses, g.Founders = []uint64{1, 2, 3}, founders(3, 3, 20) })
			g.Founders[i].Owner = owner
			if !right {
				refused(t, g)
				continue
			}
			if s := begins(t, g); s.Members[i].Owner != owner {
				t.Fatalf("%+v", s)
			}
		}
	}
}

// P24.1: each founder's balance is above Floor and at most Cap, wherever the founder stands.
func TestNewBalances(t *testing.T) {
	for balance, right := range map[uint64]bool{0: false, 1: false, 10: false, 11: true, 39: true, 40: true, 41: false, 1 << 20: false, top: false} {
		for i := range 3 {
			g := other(func(g *api.Genesis) { g.Founders = founders(3, 2, 20) })
			g.Founders[i].Balance = balance
			if !right {
				refused(t, g)
				continue
			}
			if s := begins(t, g); s.Members[i].Balance != balance || s.Members[i].Eff != min(balance/10*10, 30) {
				t.Fatalf("%+v", s)
			}
		}
	}
}

// P24.1: all purses and balances are together at most Most.
func TestNewTogether(t *testing.T) {
	for most, right := range map[uint64]bool{764: false, 765: true, 766: true, 700: false, 65: false, 0: false} {
		g := other(func(g *api.Genesis) { g.Most = most })
		if !right {
			refused(t, g)
			continue
		}
		if s := begins(t, g); s.Genesis != 765 {
			t.Fatal(s.Genesis)
		}
	}
	for _, g := range []api.Genesis{
		other(func(g *api.Genesis) { g.Most, g.Purses = api.MaxMoney, []uint64{api.MaxMoney - 65, 0} }),
		other(func(g *api.Genesis) { g.Most, g.Purses, g.Founders = api.MaxMoney, []uint64{0, api.MaxMoney}, nil }),
		other(func(g *api.Genesis) { g.Most, g.Purses, g.Founders = 0, []uint64{0, 0}, nil }),
	} {
		if s := begins(t, g); s.Genesis != g.Most {
			t.Fatal(s.Genesis)
		}
	}
}

// P24.1: what is together more than a word has room for is above any Most, also where it is little, wrapped round.
func TestNewTooMuch(t *testing.T) {
	for _, purses := range [][]uint64{
		{api.MaxMoney - 64, 0}, {api.MaxMoney, 0}, {api.MaxMoney + 1, 0}, {top, 0}, {0, top}, {top, 1}, {1, top}, {top, top},
		{top - 64, 0}, {top - 65, 0}, {1 << 63, 1 << 63}, {1 << 62, 1 << 62, 1 << 62, 1 << 62}, {1 << 63, 1<<63 - 65},
	} {
		for _, most := range []uint64{1 << 30, api.MaxMoney} {
			refused(t, other(func(g *api.Genesis) { g.Most, g.Purses = most, purses }))
		}
	}
	refused(t, other(func(g *api.Genesis) { g.Purses, g.Founders = []uint64{1 << 63, 1 << 63}, nil }))
}

// P24.1: a state in memory of its own, of each list that is nil, empty, or has something in it.
func TestOwn(t *testing.T) {
	owned(t, full())
	owned(t, api.State{})
	for i := range reflect.TypeFor[api.State]().NumField() {
		s := full()
		f := reflect.ValueOf(&s).Elem().Field(i)
		if f.Kind() != reflect.Slice {
			continue
		}
		f.SetZero()
		owned(t, s)
		f.Set(reflect.MakeSlice(f.Type(), 0, 0))
		owned(t, s)
		f.Set(reflect.MakeSlice(f.Type(), 0, 9))
		owned(t, s)
		f.Set(reflect.MakeSlice(f.Type(), 7, 9))
		owned(t, s)
	}
}

// P24.1: each motion's Yes and No, and each of the ring's marks, are in memory of their own, however long they are.
func TestOwnDeep(t *testing.T) {
	for _, b := range [][]byte{nil, {}, {1}, {1, 2, 3}, slices.Repeat([]byte{0xa5}, 16), slices.Repeat([]byte{0xa5}, 99)} {
		for i := range 3 {
			s := full()
			s.Motions[i].Yes = b
			owned(t, s)
			s.Motions[i].No = b
			owned(t, s)
			s.Ring[i%2] = b
			owned(t, s)
			s.Marks = b
			owned(t, s)
		}
	}
}

// P24.1: also of what doesn't fit, all is as it was.
func TestOwnOfWhatDoesNotFit(t *testing.T) {
	s := full()
	s.Params, s.Most, s.Epoch, s.Calm = wrong(t)[3], top, -7, math.MinInt
	s.Purses = slices.Repeat([]uint64{top}, 99)
	s.Members = slices.Repeat(s.Members, 50)
	s.Entry, s.Exit = []int{-5, math.MaxInt, 0, 0}, []int{7, 7}
	s.Pool, s.Dues = slices.Repeat(s.Pool, 300), slices.Repeat(s.Dues, 40)
	s.Motions, s.Ring = slices.Repeat(s.Motions, 20), slices.Repeat(s.Ring, 20)
	owned(t, s)
}

// Example 1 of the whole, and the chapter's example.
func TestExamples(t *testing.T) {
	s := begins(t, genesis())
	if s.Members[0].Eff != 20 || s.Members[1].Eff != 30 || s.Genesis != 765 {
		t.Fatalf("%+v", s)
	}
	none := begins(t, other(func(g *api.Genesis) { g.Founders = nil }))
	after, r := ticks(t, none)
	if r.Quorum || r.Minted != 0 || after.Epoch != 1 || after.Minted != 0 {
		t.Fatalf("%+v, %+v", after, r)
	}
	if !state.Fits(after) {
		t.Fatalf("%+v", after)
	}
}
