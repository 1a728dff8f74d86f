package purse_test

import (
	"math"
	"math/big"
	"math/rand"
	"slices"
	"testing"

	"bullion/api"
	"bullion/purse"
)

const (
	top  = 1<<64 - 1
	most = api.MaxMoney
)

// call is one of the functions that answer purses, with all that it is handed beside them.
type call func(purses []uint64) ([]uint64, api.Errno)

func draw(account int, amount uint64) call {
	return func(purses []uint64) ([]uint64, api.Errno) { return purse.Draw(purses, account, amount) }
}

func pay(account int, amount uint64) call {
	return func(purses []uint64) ([]uint64, api.Errno) { return purse.Pay(purses, account, amount) }
}

func move(from, to int, amount uint64) call {
	return func(purses []uint64) ([]uint64, api.Errno) { return purse.Move(purses, from, to, amount) }
}

// guard is what stands ahead of purses in their memory, and behind them.
const guard = 0x5151515151515151

// roomy are purses with spare room, and all the memory in which they stand.
func roomy(purses []uint64) (inner, memory []uint64) {
	memory = slices.Concat([]uint64{guard, guard}, purses, []uint64{guard, guard, guard})
	return memory[2 : 2+len(purses)], memory
}

// spoil writes over all that purses have room for.
func spoil(purses []uint64) {
	purses = purses[:cap(purses)]
	for i := range purses {
		purses[i] = 0x7777777777777777 + uint64(i)
	}
}

// gives asks that a call answers just these purses, in new memory, and that what was handed in stays, spare room too.
func gives(t *testing.T, do call, purses []uint64, want ...uint64) {
	t.Helper()
	inner, memory := roomy(purses)
	was := slices.Clone(memory)
	got, e := do(inner)
	if e != api.OK || !slices.Equal(got, want) {
		t.Fatalf("of %v: %v, %d, want %v", purses, got, e, want)
	}
	if slices.Contains(got[len(got):cap(got)], guard) {
		t.Fatalf("of %v: spare room is handed out", purses)
	}
	again, _ := do(inner)
	spoil(got)
	if !slices.Equal(memory, was) || !slices.Equal(again, want) {
		t.Fatalf("of %v: %v is now %v, and %v told again", purses, was, memory, again)
	}
	spoil(memory)
	if !slices.Equal(again, want) {
		t.Fatalf("of %v: what was handed in is handed out: %v", purses, again)
	}
}

// refuses asks that a call answers an error and no purses, and that what was handed in stays, spare room too.
func refuses(t *testing.T, do call, purses []uint64, want api.Errno) {
	t.Helper()
	inner, memory := roomy(purses)
	was := slices.Clone(memory)
	got, e := do(inner)
	if e != want || len(got) != 0 || cap(got) != 0 {
		t.Fatalf("of %v: %v, %d, want %d", purses, got, e, want)
	}
	if !slices.Equal(memory, was) {
		t.Fatalf("of %v: %v is now %v", purses, was, memory)
	}
}

// has asks what an account has.
func has(t *testing.T, purses []uint64, account int, want uint64, wantError api.Errno) {
	t.Helper()
	inner, memory := roomy(purses)
	was := slices.Clone(memory)
	if got, e := purse.Has(inner, account); got != want || e != wantError {
		t.Fatalf("Has(%v, %d): %d, %d, want %d, %d", purses, account, got, e, want, wantError)
	}
	if !slices.Equal(memory, was) {
		t.Fatalf("Has(%v, %d): %v is now %v", purses, account, was, memory)
	}
}

// all asks what purses have together.
func all(t *testing.T, purses []uint64, want uint64, wantError api.Errno) {
	t.Helper()
	inner, memory := roomy(purses)
	was := slices.Clone(memory)
	if got, e := purse.All(inner); got != want || e != wantError {
		t.Fatalf("All of %d, first %v: %d, %d, want %d, %d", len(purses), purses[:min(len(purses), 9)], got, e, want, wantError)
	}
	if !slices.Equal(memory, was) {
		t.Fatalf("All(%v): %v is now %v", purses, was, memory)
	}
}

// put are purses of which one has another sum.
func put(purses []uint64, account int, sum uint64) []uint64 {
	purses = slices.Clone(purses)
	purses[account] = sum
	return purses
}

// many are so many purses, of which no two have the same.
func many(n int) []uint64 {
	list := make([]uint64, n)
	for i := range list {
		list[i] = 1000 + 7*uint64(i)
	}
	return list
}

// lists are purses: none, one, some, as many as there may be accounts, and more.
func lists() [][]uint64 {
	return [][]uint64{nil, {}, {0}, {5}, {5, 3}, {8, 0, 4}, many(9), many(api.MaxAccounts), many(api.MaxAccounts + 1), many(500)}
}

// accounts are the first ones of n, the middle one and the last ones.
func accounts(n int) []int {
	var list []int
	for _, account := range []int{0, 1, n / 2, n - 2, n - 1} {
		if account >= 0 && account < n && !slices.Contains(list, account) {
			list = append(list, account)
		}
	}
	return list
}

// strangers are numbers that are no account of n.
func strangers(n int) []int {
	list := []int{math.MinInt, math.MinInt + 1, -1 << 32, -n - 1, -1, n, n + 1, n + 3, 1<<32 + n, math.MaxInt - 1, math.MaxInt}
	if n > 0 {
		list = append(list, -n, math.MinInt+n-1)
	}
	return list
}

// edges are numbers at which something changes.
func edges() []uint64 {
	return []uint64{
		0, 1, 2, 1 << 32, most/2 - 1, most / 2, most/2 + 1, most - 1, most, most + 1,
		1<<63 - 1, 1 << 63, 1<<63 + 1, top - most - 1, top - most, top - most + 1, top - 1, top,
	}
}

func num(n uint64) *big.Int { return new(big.Int).SetUint64(n) }

// together is what purses have, over whole numbers.
func together(purses []uint64) *big.Int {
	sum := new(big.Int)
	for _, n := range purses {
		sum.Add(sum, num(n))
	}
	return sum
}

// strange says whether a number is no account.
func strange(purses []uint64, account int) bool { return account < 0 || account >= len(purses) }

// drawnOf, paidOf and movedOf are purses by the chapter's words, over whole numbers.
func drawnOf(purses []uint64, account int, amount uint64) ([]uint64, api.Errno) {
	if strange(purses, account) {
		return nil, api.ErrAccount
	}
	left := new(big.Int).Sub(num(purses[account]), num(amount))
	if left.Sign() < 0 {
		return nil, api.ErrFunds
	}
	return put(purses, account, left.Uint64()), api.OK
}

func paidOf(purses []uint64, account int, amount uint64) ([]uint64, api.Errno) {
	if strange(purses, account) {
		return nil, api.ErrAccount
	}
	sum := new(big.Int).Add(num(purses[account]), num(amount))
	if sum.Cmp(num(most)) > 0 {
		return nil, api.ErrOver
	}
	return put(purses, account, sum.Uint64()), api.OK
}

func movedOf(purses []uint64, from, to int, amount uint64) ([]uint64, api.Errno) {
	if strange(purses, from) || strange(purses, to) {
		return nil, api.ErrAccount
	}
	drawn, e := drawnOf(purses, from, amount)
	if e != api.OK {
		return nil, e
	}
	return paidOf(drawn, to, amount)
}

// held asks that Draw, Pay and Move answer what the chapter's words say.
func held(t *testing.T, purses []uint64, from, to int, amount uint64) {
	t.Helper()
	ask := func(do call, want []uint64, e api.Errno) {
		t.Helper()
		if e != api.OK {
			refuses(t, do, purses, e)
		} else {
			gives(t, do, purses, want...)
		}
	}
	want, e := drawnOf(purses, from, amount)
	ask(draw(from, amount), want, e)
	want, e = paidOf(purses, to, amount)
	ask(pay(to, amount), want, e)
	want, e = movedOf(purses, from, to, amount)
	ask(move(from, to, amount), want, e)
}

// P17.1: what an account has: the first one, each middle one, the last one, whatever it is.
func TestHas(t *testing.T) {
	for _, purses := range lists() {
		for account, want := range purses {
			has(t, purses, account, want, api.OK)
		}
	}
	for _, n := range edges() {
		has(t, []uint64{n}, 0, n, api.OK)
		has(t, []uint64{1, n, 2}, 1, n, api.OK)
		has(t, []uint64{1, 2, n}, 2, n, api.OK)
	}
}

// P17.1: where there is no such account nothing is told but that.
func TestNoSuchAccount(t *testing.T) {
	for _, purses := range lists() {
		for _, account := range strangers(len(purses)) {
			has(t, purses, account, 0, api.ErrAccount)
			for _, amount := range []uint64{0, 1, 5, most, most + 1, top} {
				refuses(t, draw(account, amount), purses, api.ErrAccount)
				refuses(t, pay(account, amount), purses, api.ErrAccount)
				refuses(t, move(account, account, amount), purses, api.ErrAccount)
			}
		}
	}
}

// P17.1: of no purses at all, nil and empty, as they are handed in.
func TestNoPurses(t *testing.T) {
	for _, purses := range [][]uint64{nil, {}, make([]uint64, 0, 4)} {
		for _, account := range []int{math.MinInt, -1, 0, 1, math.MaxInt} {
			for _, amount := range []uint64{0, 1, top} {
				for _, do := range []call{draw(account, amount), pay(account, amount), move(account, account, amount), move(0, account, amount), move(account, 0, amount)} {
					if got, e := do(purses); got != nil || e != api.ErrAccount {
						t.Fatal(account, amount, got, e)
					}
				}
			}
			if n, e := purse.Has(purses, account); n != 0 || e != api.ErrAccount {
				t.Fatal(account, n, e)
			}
		}
		if n, e := purse.All(purses); n != 0 || e != api.OK {
			t.Fatal(n, e)
		}
	}
}

// P17.1: an account has so much less, and all others what they had: the first one, middle ones, the last one.
func TestDraw(t *testing.T) {
	gives(t, draw(0, 5), []uint64{5}, 0)
	gives(t, draw(0, 2), []uint64{5, 3}, 3, 3)
	gives(t, draw(1, 2), []uint64{5, 3}, 5, 1)
	gives(t, draw(2, 3), []uint64{8, 0, 4}, 8, 0, 1)
	for _, purses := range lists() {
		for _, account := range accounts(len(purses)) {
			n := purses[account]
			gives(t, draw(account, 0), purses, purses...)
			gives(t, draw(account, n/2), purses, put(purses, account, n-n/2)...)
			gives(t, draw(account, n), purses, put(purses, account, 0)...)
			if n > 0 {
				gives(t, draw(account, 1), purses, put(purses, account, n-1)...)
				gives(t, draw(account, n-1), purses, put(purses, account, 1)...)
			}
			refuses(t, draw(account, n+1), purses, api.ErrFunds)
		}
	}
}

// P17.1: nothing, one less than an account has, just that, one more, and far more, of purses of 0 and of more than MaxMoney too.
func TestDrawAtTheEdges(t *testing.T) {
	for _, n := range edges() {
		purses := []uint64{7, n, top}
		gives(t, draw(1, 0), purses, 7, n, top)
		gives(t, draw(1, n), purses, 7, 0, top)
		if n > 0 {
			gives(t, draw(1, 1), purses, 7, n-1, top)
			gives(t, draw(1, n-1), purses, 7, 1, top)
		}
		if n < top {
			refuses(t, draw(1, n+1), purses, api.ErrFunds)
			refuses(t, draw(1, top), purses, api.ErrFunds)
		}
	}
	// What is left may be more than MaxMoney still.
	gives(t, draw(0, 1), []uint64{most + 2}, most+1)
	gives(t, draw(0, 1), []uint64{top}, top-1)
	// What others have doesn't help.
	refuses(t, draw(0, 1), []uint64{0, 9}, api.ErrFunds)
	refuses(t, draw(1, 4), []uint64{9, 3, 9}, api.ErrFunds)
}

// P17.1: an account has so much more, and all others what they had: the first one, middle ones, the last one.
func TestPay(t *testing.T) {
	gives(t, pay(0, 5), []uint64{0}, 5)
	gives(t, pay(0, 2), []uint64{5, 3}, 7, 3)
	gives(t, pay(1, 2), []uint64{5, 3}, 5, 5)
	gives(t, pay(2, 3), []uint64{8, 0, 4}, 8, 0, 7)
	for _, purses := range lists() {
		for _, account := range accounts(len(purses)) {
			n := purses[account]
			gives(t, pay(account, 0), purses, purses...)
			gives(t, pay(account, 1), purses, put(purses, account, n+1)...)
			gives(t, pay(account, most-n-1), purses, put(purses, account, most-1)...)
			gives(t, pay(account, most-n), purses, put(purses, account, most)...)
			refuses(t, pay(account, most-n+1), purses, api.ErrOver)
		}
	}
}

// P17.1: up to just MaxMoney, and no further, also where no word has room for the sum.
func TestPayAtTheEdges(t *testing.T) {
	for _, n := range edges() {
		purses := []uint64{7, n, top}
		if n > most {
			for _, amount := range edges() {
				refuses(t, pay(1, amount), purses, api.ErrOver)
			}
			continue
		}
		gives(t, pay(1, 0), purses, 7, n, top)
		gives(t, pay(1, most-n), purses, 7, most, top)
		if n < most {
			gives(t, pay(1, most-n-1), purses, 7, most-1, top)
		}
		for _, amount := range []uint64{most - n + 1, most - n + 2, 1<<63 - n, top - n, top} {
			refuses(t, pay(1, amount), purses, api.ErrOver)
		}
		if n > 0 {
			// The sums that wrap round to 0, to 1, to n - 1.
			refuses(t, pay(1, top-n+1), purses, api.ErrOver)
			refuses(t, pay(1, top-n+1+min(1, n-1)), purses, api.ErrOver)
		}
	}
	// All others together may have far more.
	gives(t, pay(1, 1), []uint64{most, most - 1, most, most, top}, most, most, most, most, top)
}

// P17.1: a purse that has more than MaxMoney already takes nothing, not even 0.
func TestPayTooMuchAlready(t *testing.T) {
	for _, n := range []uint64{most + 1, most + 2, 1 << 63, top - 1, top} {
		for _, amount := range []uint64{0, 1, 2, most, top - n, top - n + 1, top} {
			refuses(t, pay(0, amount), []uint64{n}, api.ErrOver)
			refuses(t, pay(1, amount), []uint64{3, n, 4}, api.ErrOver)
			gives(t, pay(2, 0), []uint64{3, n, 4}, 3, n, 4)
		}
	}
}

// P17.1: both purses are others, and all others what they were: to next to from, and far from it, behind it and ahead of it.
func TestMove(t *testing.T) {
	for _, x := range []struct {
		from, to int
		want     []uint64
	}{
		{0, 1, []uint64{6, 24, 30, 40, 50}},
		{1, 0, []uint64{14, 16, 30, 40, 50}},
		{2, 3, []uint64{10, 20, 26, 44, 50}},
		{3, 2, []uint64{10, 20, 34, 36, 50}},
		{3, 4, []uint64{10, 20, 30, 36, 54}},
		{4, 3, []uint64{10, 20, 30, 44, 46}},
		{0, 4, []uint64{6, 20, 30, 40, 54}},
		{4, 0, []uint64{14, 20, 30, 40, 46}},
		{1, 3, []uint64{10, 16, 30, 44, 50}},
		{3, 1, []uint64{10, 24, 30, 36, 50}},
	} {
		gives(t, move(x.from, x.to, 4), []uint64{10, 20, 30, 40, 50}, x.want...)
	}
	for _, purses := range lists() {
		for _, from := range accounts(len(purses)) {
			for _, to := range accounts(len(purses)) {
				n := purses[from]
				for _, amount := range []uint64{0, 1, n / 3, n - 1, n, n + 1, top} {
					held(t, purses, from, to, amount)
				}
			}
		}
	}
}

// P17.1: no such account in from alone, in to alone, and in both.
func TestMoveNoSuchAccount(t *testing.T) {
	for _, purses := range [][]uint64{{5}, {5, 3}, {8, 0, 4}, many(9), many(api.MaxAccounts)} {
		for _, there := range accounts(len(purses)) {
			for _, stranger := range strangers(len(purses)) {
				for _, amount := range []uint64{0, 1, purses[there]} {
					refuses(t, move(stranger, there, amount), purses, api.ErrAccount)
					refuses(t, move(there, stranger, amount), purses, api.ErrAccount)
				}
			}
		}
		for _, from := range strangers(len(purses)) {
			for _, to := range strangers(len(purses)) {
				refuses(t, move(from, to, 1), purses, api.ErrAccount)
			}
		}
	}
}

// P17.1: from has less than that, or would leave to with more than MaxMoney.
func TestMoveRefused(t *testing.T) {
	refuses(t, move(0, 1, 6), []uint64{5, 3}, api.ErrFunds)
	refuses(t, move(1, 0, 4), []uint64{5, 3}, api.ErrFunds)
	refuses(t, move(1, 0, 1), []uint64{5, 0}, api.ErrFunds)
	refuses(t, move(0, 2, top), []uint64{top - 1, 0, 0}, api.ErrFunds)

	gives(t, move(0, 1, 3), []uint64{5, most - 4}, 2, most-1)
	gives(t, move(0, 1, 4), []uint64{5, most - 4}, 1, most)
	refuses(t, move(0, 1, 5), []uint64{5, most - 4}, api.ErrOver)
	gives(t, move(2, 0, most), []uint64{0, 9, top}, most, 9, top-most)
	refuses(t, move(2, 0, most+1), []uint64{0, 9, top}, api.ErrOver)
	// Sums that no word has room for.
	refuses(t, move(0, 1, top), []uint64{top, 1}, api.ErrOver)
	refuses(t, move(0, 1, top), []uint64{top, most}, api.ErrOver)
	refuses(t, move(1, 0, top-most+1), []uint64{most, top}, api.ErrOver)
	// A purse that has more than MaxMoney already: some of it goes, nothing comes, not even 0.
	gives(t, move(0, 1, 1), []uint64{most + 2, 0}, most+1, 1)
	gives(t, move(0, 1, 0), []uint64{most + 2, 0}, most+2, 0)
	refuses(t, move(1, 0, 0), []uint64{most + 1, 7}, api.ErrOver)
	refuses(t, move(1, 0, 1), []uint64{most + 1, 7}, api.ErrOver)
	refuses(t, move(0, 1, 1), []uint64{top, top}, api.ErrOver)
}

// P17.1: of two errors at once the one that the chapter names first: no such account, then too little, then too much.
func TestMoveOfTwoErrors(t *testing.T) {
	for _, stranger := range strangers(2) {
		// There is no such account as to, and from has less.
		for _, amount := range []uint64{6, most, most + 1, top} {
			refuses(t, move(0, stranger, amount), []uint64{5, 3}, api.ErrAccount)
			refuses(t, move(1, stranger, amount), []uint64{5, 3}, api.ErrAccount)
		}
		// There is no such account as from, and to would have too much.
		for _, amount := range []uint64{0, 1, most + 1, top} {
			refuses(t, move(stranger, 0, amount), []uint64{most + 1, 3}, api.ErrAccount)
			refuses(t, move(stranger, 1, amount), []uint64{5, top}, api.ErrAccount)
		}
	}
	// From has less, and to would have too much.
	refuses(t, move(0, 1, 6), []uint64{5, most}, api.ErrFunds)
	refuses(t, move(0, 1, 6), []uint64{5, most + 1}, api.ErrFunds)
	refuses(t, move(1, 0, 6), []uint64{most, 5}, api.ErrFunds)
	refuses(t, move(1, 0, 6), []uint64{top, 5}, api.ErrFunds)
	refuses(t, move(0, 1, most+1), []uint64{most, 0}, api.ErrFunds)
	refuses(t, move(0, 1, top), []uint64{5, 3}, api.ErrFunds)
	refuses(t, move(0, 1, top), []uint64{top - 1, top}, api.ErrFunds)
}

// P17.1, P17.3: from an account to itself nothing changes: nothing, a part, all; more than it has is refused.
func TestMoveToItself(t *testing.T) {
	for _, purses := range lists() {
		for account, n := range purses {
			for _, amount := range []uint64{0, min(1, n), n / 2, n - min(1, n), n} {
				gives(t, move(account, account, amount), purses, purses...)
			}
			for _, amount := range []uint64{n + 1, n + 2, most, top} {
				refuses(t, move(account, account, amount), purses, api.ErrFunds)
			}
		}
	}
	// All of MaxMoney goes and comes: behind the draw there is room.
	for _, amount := range []uint64{0, 1, most / 2, most - 1, most} {
		gives(t, move(0, 0, amount), []uint64{most}, most)
		gives(t, move(1, 1, amount), []uint64{top, most, 4}, top, most, 4)
	}
	refuses(t, move(0, 0, most+1), []uint64{most}, api.ErrFunds)
	// What has more than MaxMoney would have more again.
	for _, n := range []uint64{most + 1, 1 << 63, top} {
		for _, amount := range []uint64{0, 1, n - most, n - 1, n} {
			refuses(t, move(0, 0, amount), []uint64{n}, api.ErrOver)
			refuses(t, move(1, 1, amount), []uint64{3, n, 4}, api.ErrOver)
		}
	}
	refuses(t, move(0, 0, most+2), []uint64{most + 1}, api.ErrFunds)
	refuses(t, move(0, 0, top), []uint64{top - 1}, api.ErrFunds)
}

// P17.1: all edges of purses by all edges of amounts, each account by each other one, held against whole numbers.
func TestAgainstWholeNumbers(t *testing.T) {
	for _, a := range edges() {
		for _, b := range edges() {
			for _, amount := range edges() {
				for from := -1; from <= 2; from++ {
					for to := -1; to <= 2; to++ {
						held(t, []uint64{a, b}, from, to, amount)
					}
				}
			}
		}
	}
}

// P17.1: few of everything.
func TestSmall(t *testing.T) {
	for code := range 4 * 4 * 4 {
		purses := []uint64{uint64(code % 4), uint64(code / 4 % 4), most - uint64(code/16)}
		for n := range 4 {
			for from := range 3 {
				for to := range 3 {
					for amount := range uint64(6) {
						held(t, purses[:n], from, to, amount)
					}
				}
			}
		}
	}
}

// mixed is a number of any length.
func mixed(dice *rand.Rand) uint64 {
	switch dice.Intn(4) {
	case 0:
		return edges()[dice.Intn(len(edges()))]
	case 1:
		return most - uint64(dice.Intn(50))
	}
	return dice.Uint64() >> dice.Intn(64)
}

// P17.1: mixed purses and amounts.
func TestMixed(t *testing.T) {
	dice := rand.New(rand.NewSource(17))
	for range 20000 {
		purses := make([]uint64, dice.Intn(7))
		for i := range purses {
			purses[i] = mixed(dice)
		}
		from, to, amount := dice.Intn(len(purses)+3)-1, dice.Intn(len(purses)+3)-1, mixed(dice)
		if !strange(purses, from) && dice.Intn(2) == 0 {
			amount = purses[from] - uint64(dice.Intn(3)) + 1
		}
		held(t, purses, from, to, amount)
	}
}

// P17.2: all together, of none, of one, of many.
func TestAll(t *testing.T) {
	all(t, nil, 0, api.OK)
	all(t, []uint64{}, 0, api.OK)
	all(t, []uint64{5, 3}, 8, api.OK)
	all(t, []uint64{0, 0, 0}, 0, api.OK)
	all(t, []uint64{1, 20, 300, 4000}, 4321, api.OK)
	for _, n := range edges() {
		all(t, []uint64{n}, n, api.OK)
		all(t, []uint64{0, n, 0}, n, api.OK)
	}
	for _, n := range []int{2, 9, api.MaxAccounts, api.MaxAccounts + 1, api.MaxWeights + 1, 5000} {
		k := uint64(n)
		all(t, many(n), 1000*k+7*(k*(k-1)/2), api.OK)
	}
	// More than MaxMoney may be there in all.
	all(t, []uint64{most, 1}, most+1, api.OK)
	all(t, []uint64{most, most, most}, 3*most, api.OK)
}

// P17.2: just 2^64 - 1, and one more, wherever that stands.
func TestAllAtTheEdge(t *testing.T) {
	for _, purses := range [][]uint64{{top}, {most, most, most, most - 1}, {top - 1, 1}, {1, 2, top - 3}, {1 << 63, 1<<63 - 1}, {0, top, 0}} {
		all(t, purses, top, api.OK)
		for account, n := range purses {
			if n < top {
				all(t, put(purses, account, n+1), 0, api.ErrOver)
			}
			all(t, slices.Insert(slices.Clone(purses), account, 0), top, api.OK)
			all(t, slices.Insert(slices.Clone(purses), account, 1), 0, api.ErrOver)
			all(t, slices.Insert(slices.Clone(purses), account, top), 0, api.ErrOver)
		}
		all(t, append(slices.Clone(purses), 1), 0, api.ErrOver)
		// Beyond that end nothing comes back, however much follows.
		all(t, append(slices.Clone(purses), 1, 5), 0, api.ErrOver)
		all(t, append(slices.Clone(purses), top, top, 1), 0, api.ErrOver)
	}
	all(t, []uint64{most, most, most, most}, 0, api.ErrOver)
	all(t, []uint64{1 << 63, 1 << 63}, 0, api.ErrOver)
	all(t, slices.Repeat([]uint64{1 << 48}, 1<<16), 0, api.ErrOver)
	all(t, slices.Repeat([]uint64{1<<48 - 1}, 1<<16), top-1<<16+1, api.OK)
	all(t, slices.Repeat([]uint64{top}, 300), 0, api.ErrOver)
}

// P17.2: mixed purses, held against whole numbers.
func TestAllMixed(t *testing.T) {
	dice := rand.New(rand.NewSource(172))
	for range 20000 {
		purses := make([]uint64, dice.Intn(9))
		for i := range purses {
			purses[i] = mixed(dice) >> dice.Intn(4)
		}
		if sum := together(purses); sum.IsUint64() {
			all(t, purses, sum.Uint64(), api.OK)
		} else {
			all(t, purses, 0, api.ErrOver)
		}
	}
}

// kept asks that a move between two accounts, if it is made, loses and makes nothing, leaves all others, and comes back, if from may have again what it had.
func kept(t *testing.T, purses []uint64, from, to int, amount uint64) {
	t.Helper()
	after, e := purse.Move(purses, from, to, amount)
	if e != api.OK {
		return
	}
	if len(after) != len(purses) || together(after).Cmp(together(purses)) != 0 {
		t.Fatalf("Move(%v, %d, %d, %d): %v", purses, from, to, amount, after)
	}
	was, e := purse.All(purses)
	if sum, e2 := purse.All(after); sum != was || e != e2 {
		t.Fatalf("All of %v: %d, %d; of %v: %d, %d", purses, was, e, after, sum, e2)
	}
	for account := range purses {
		if account != from && account != to && after[account] != purses[account] {
			t.Fatalf("Move(%v, %d, %d, %d): %v, of account %d too", purses, from, to, amount, after, account)
		}
	}
	if from == to && !slices.Equal(after, purses) {
		t.Fatalf("Move(%v, %d, %d, %d): %v", purses, from, to, amount, after)
	}
	if purses[from] <= most {
		gives(t, move(to, from, amount), after, purses...)
	} else {
		refuses(t, move(to, from, amount), after, api.ErrOver)
	}
}

// P17.3: what is moved is lost nowhere, goes nowhere else, and comes back.
func TestNothingIsLost(t *testing.T) {
	for _, purses := range append(lists(), []uint64{most, most, most, most}, []uint64{top, 0, most - 1, 1, most + 1}) {
		for _, from := range accounts(len(purses)) {
			for _, to := range accounts(len(purses)) {
				n := purses[from]
				for _, amount := range []uint64{0, 1, 2, n / 2, n - 1, n, n + 1, most - purses[to], most} {
					kept(t, purses, from, to, amount)
				}
			}
		}
	}
	dice := rand.New(rand.NewSource(173))
	for range 20000 {
		purses := make([]uint64, 1+dice.Intn(6))
		for i := range purses {
			purses[i] = mixed(dice)
		}
		from, to := dice.Intn(len(purses)), dice.Intn(len(purses))
		kept(t, purses, from, to, purses[from]>>dice.Intn(64))
	}
}

// P17.3: a long row of moves, each of what the one ahead of it told: all purses have together what they had at the beginning.
func TestManyMoves(t *testing.T) {
	dice := rand.New(rand.NewSource(1733))
	first := many(api.MaxAccounts)
	purses := slices.Clone(first)
	made := 0
	for range 20000 {
		from, to, amount := dice.Intn(len(purses)+1), dice.Intn(len(purses)), uint64(dice.Intn(2000))
		want, wantError := movedOf(purses, from, to, amount)
		after, e := purse.Move(purses, from, to, amount)
		if e != wantError || !slices.Equal(after, want) {
			t.Fatal(from, to, amount, after, e, want, wantError)
		}
		if e == api.OK {
			purses = after
			made++
		}
	}
	if made < 5000 || slices.Equal(purses, first) || together(purses).Cmp(together(first)) != 0 {
		t.Fatal(made, purses)
	}
}

// What is drawn and paid back, and paid and drawn back, is what there was.
func TestDrawUndoesPay(t *testing.T) {
	for _, purses := range lists() {
		for _, account := range accounts(len(purses)) {
			for _, amount := range []uint64{0, purses[account] / 2, purses[account]} {
				drawn, _ := purse.Draw(purses, account, amount)
				gives(t, pay(account, amount), drawn, purses...)
				paid, _ := purse.Pay(purses, account, amount)
				gives(t, draw(account, amount), paid, purses...)
			}
		}
	}
}

// Rule 4: a list that came of another one, of which nothing was changed, may be written over too, and all others stay.
func TestListsShareNothing(t *testing.T) {
	first := []uint64{5, 3, 8}
	drawn, _ := purse.Draw(first, 0, 0)
	paid, _ := purse.Pay(drawn, 1, 0)
	moved, _ := purse.Move(paid, 2, 2, 8)
	still, _ := purse.Move(moved, 0, 1, 0)
	chain := [][]uint64{first, drawn, paid, moved, still}
	for i, one := range chain {
		for _, other := range chain[i:] {
			if !slices.Equal(other, []uint64{5, 3, 8}) {
				t.Fatal(i, chain)
			}
		}
		spoil(one)
	}
}

// Rule 5: what is answered hangs on the arguments alone, not on what was asked ahead.
func TestAskedAgain(t *testing.T) {
	for range 3 {
		gives(t, move(0, 1, 4), []uint64{5, 3}, 1, 7)
		refuses(t, move(0, 1, 6), []uint64{5, 3}, api.ErrFunds)
		refuses(t, pay(0, most), []uint64{5, 3}, api.ErrOver)
		gives(t, pay(0, 1), []uint64{5, 3}, 6, 3)
		refuses(t, draw(2, 1), []uint64{5, 3}, api.ErrAccount)
		gives(t, draw(1, 1), []uint64{5, 3}, 5, 2)
		has(t, []uint64{5, 3}, 1, 3, api.OK)
		all(t, []uint64{top, 1}, 0, api.ErrOver)
		all(t, []uint64{5, 3}, 8, api.OK)
	}
}

// The chapter's examples.
func TestExamples(t *testing.T) {
	gives(t, move(0, 1, 4), []uint64{5, 3}, 1, 7)
	refuses(t, move(0, 1, 6), []uint64{5, 3}, api.ErrFunds)
}
