package pool_test

import (
	"math"
	"math/big"
	"math/rand"
	"slices"
	"testing"

	"bullion/api"
	"bullion/pool"
)

const (
	top  = 1<<64 - 1
	most = api.MaxMoney
)

// call is one of the functions that answer a list, with all that it is handed beside the list.
type call[T comparable] func(list []T) ([]T, api.Errno)

func add(d api.Deposit) call[api.Deposit] {
	return func(list []api.Deposit) ([]api.Deposit, api.Errno) { return pool.Add(list, d) }
}

func owe(d api.Due) call[api.Due] {
	return func(dues []api.Due) ([]api.Due, api.Errno) { return pool.Owe(dues, d) }
}

// What stands ahead of deposits and dues in their memory and behind them, and what they are written over with.
var (
	strayDeposit = api.Deposit{Account: 51, Member: 52, Amount: 5353, New: true}
	strayDue     = api.Due{Account: 51, At: 52, Amount: 5353}
	blotDeposit  = api.Deposit{Account: 71, Member: 72, Amount: 7373, New: true}
	blotDue      = api.Due{Account: 71, At: 72, Amount: 7373}
)

// ask is how the memory of one kind of things is looked after.
type ask[T comparable] struct{ stray, blot T }

var (
	deposits = ask[api.Deposit]{strayDeposit, blotDeposit}
	debts    = ask[api.Due]{strayDue, blotDue}
)

// roomy is a list with spare room, and all the memory in which it stands.
func (a ask[T]) roomy(list []T) (inner, memory []T) {
	memory = slices.Concat([]T{a.stray, a.stray}, list, []T{a.stray, a.stray, a.stray})
	return memory[2 : 2+len(list)], memory
}

// spoil writes over all that a list has room for.
func (a ask[T]) spoil(list []T) {
	list = list[:cap(list)]
	for i := range list {
		list[i] = a.blot
	}
}

// gives asks that a call answers just this list, in new memory, and that what was handed in stays, spare room too.
func (a ask[T]) gives(t *testing.T, do call[T], list []T, want ...T) {
	t.Helper()
	inner, memory := a.roomy(list)
	was := slices.Clone(memory)
	got, e := do(inner)
	if e != api.OK || !slices.Equal(got, want) {
		t.Fatalf("of %v: %v, %d, want %v", list, got, e, want)
	}
	if slices.Contains(got[len(got):cap(got)], a.stray) {
		t.Fatalf("of %v: spare room is handed out", list)
	}
	again, _ := do(inner)
	a.spoil(got)
	if !slices.Equal(memory, was) || !slices.Equal(again, want) {
		t.Fatalf("of %v: %v is now %v, and %v told again", list, was, memory, again)
	}
	a.spoil(memory)
	if !slices.Equal(again, want) {
		t.Fatalf("of %v: what was handed in is handed out: %v", list, again)
	}
}

// refuses asks that a call answers an error and no list, and that what was handed in stays, spare room too.
func (a ask[T]) refuses(t *testing.T, do call[T], list []T, want api.Errno) {
	t.Helper()
	inner, memory := a.roomy(list)
	was := slices.Clone(memory)
	got, e := do(inner)
	if e != want || len(got) != 0 || cap(got) != 0 {
		t.Fatalf("of %v: %v, %d, want %d", list, got, e, want)
	}
	if !slices.Equal(memory, was) {
		t.Fatalf("of %v: %v is now %v", list, was, memory)
	}
}

// answers asks that a call answers just what a model does.
func (a ask[T]) answers(t *testing.T, do call[T], list, want []T, e api.Errno) {
	t.Helper()
	if e != api.OK {
		a.refuses(t, do, list, e)
	} else {
		a.gives(t, do, list, want...)
	}
}

// parts asks what is ripe and what isn't, that both are new memory, of which none shares any, and that what was handed in stays.
func parts(t *testing.T, dues []api.Due, now int, wantRipe, wantRest []api.Due) {
	t.Helper()
	inner, memory := debts.roomy(dues)
	was := slices.Clone(memory)
	ripe, rest := pool.Ripe(inner, now)
	if !slices.Equal(ripe, wantRipe) || !slices.Equal(rest, wantRest) {
		t.Fatalf("Ripe(%v, %d): %v, %v, want %v, %v", dues, now, ripe, rest, wantRipe, wantRest)
	}
	if slices.Contains(ripe[len(ripe):cap(ripe)], strayDue) || slices.Contains(rest[len(rest):cap(rest)], strayDue) {
		t.Fatalf("Ripe(%v, %d): spare room is handed out", dues, now)
	}
	debts.spoil(ripe)
	if !slices.Equal(rest, wantRest) || !slices.Equal(memory, was) {
		t.Fatalf("Ripe(%v, %d): of what is ripe %v is now %v, and the others %v", dues, now, was, memory, rest)
	}
	ripe, rest = pool.Ripe(inner, now)
	debts.spoil(rest)
	if !slices.Equal(ripe, wantRipe) || !slices.Equal(memory, was) {
		t.Fatalf("Ripe(%v, %d): of the others %v is now %v, and what is ripe %v", dues, now, was, memory, ripe)
	}
	ripe, rest = pool.Ripe(inner, now)
	debts.spoil(memory)
	if !slices.Equal(ripe, wantRipe) || !slices.Equal(rest, wantRest) {
		t.Fatalf("Ripe(%v, %d): what was handed in is handed out: %v, %v", dues, now, ripe, rest)
	}
}

// sums asks what is on its way, and that what was handed in stays.
func sums(t *testing.T, list []api.Deposit, dues []api.Due, want uint64, wantError api.Errno) {
	t.Helper()
	innerList, listMemory := deposits.roomy(list)
	innerDues, duesMemory := debts.roomy(dues)
	wasList, wasDues := slices.Clone(listMemory), slices.Clone(duesMemory)
	if got, e := pool.Sum(innerList, innerDues); got != want || e != wantError {
		t.Fatalf("Sum(%v, %v): %d, %d, want %d, %d", list[:min(len(list), 9)], dues[:min(len(dues), 9)], got, e, want, wantError)
	}
	if !slices.Equal(listMemory, wasList) || !slices.Equal(duesMemory, wasDues) {
		t.Fatalf("Sum(%v, %v): they are now %v, %v", list, dues, listMemory, duesMemory)
	}
}

// dep is a deposit for a member that there is, fresh is one for a new member, and due is what is due.
func dep(account, member int, amount uint64) api.Deposit {
	return api.Deposit{Account: account, Member: member, Amount: amount}
}

func fresh(account int, amount uint64) api.Deposit {
	return api.Deposit{Account: account, Amount: amount, New: true}
}

func due(account, at int, amount uint64) api.Due {
	return api.Due{Account: account, At: at, Amount: amount}
}

// waiting are so many deposits, of which no two that follow each other are the same.
func waiting(n int) []api.Deposit {
	list := make([]api.Deposit, n)
	for i := range list {
		list[i] = dep(i%api.MaxAccounts, i%api.MaxMembers, 100+uint64(i))
		if i%3 == 1 {
			list[i] = fresh(i%api.MaxAccounts, 100+uint64(i))
		}
	}
	return list
}

// odd are deposits that Add itself would refuse.
func odd() []api.Deposit {
	return []api.Deposit{{}, dep(-1, math.MinInt, 0), {Account: math.MaxInt, Member: 5, Amount: top, New: true}, dep(7, 200, most+1)}
}

// pools are lists of deposits: none, one, some, also such ones that may not be, and as many as may wait but one.
func pools() [][]api.Deposit {
	return [][]api.Deposit{nil, {}, {dep(1, 2, 3)}, {fresh(1, 3), dep(1, 2, 3)}, waiting(9), odd(), waiting(api.MaxLine - 1)}
}

// lists are lists of dues: none, one, some, also such ones as stand in no order, twice or may not be.
func lists() [][]api.Due {
	return [][]api.Due{
		nil, {}, {due(1, 5, 3)}, {due(1, 5, 3), due(2, 5, 4), due(1, 6, 9)},
		{due(1, 9, 3), due(1, 2, 4), due(1, 5, 9), due(1, 2, 8), due(1, 7, 1)},
		{due(1, 5, 3), due(1, 5, 4), due(1, 5, 5)},
		{due(0, 0, 0), due(-1, -1, top), due(0, math.MaxInt, most), due(0, math.MinInt, most+1), due(1, 5, 1)},
	}
}

// ints are numbers at which something changes of which there may be as many as size, or any number.
func ints(size int) []int {
	return []int{math.MinInt, math.MinInt + 1, -1 << 32, -size, -2, -1, 0, 1, size / 2, size - 1, size, size + 1, 1 << 31, 1 << 32, 1<<32 + 1, math.MaxInt - 1, math.MaxInt}
}

// sizes are amounts at which something changes.
func sizes() []uint64 {
	return []uint64{0, 1, 2, 7, 1 << 32, most - 1, most, most + 1, 1<<63 - 1, 1 << 63, 1<<63 + 1, top - most, top - 1, top}
}

func num(n uint64) *big.Int { return new(big.Int).SetUint64(n) }

func tooMuch(sum *big.Int) bool { return sum.Cmp(num(most)) > 0 }

// addOf and oweOf are lists by the chapter's words, over whole numbers.
func addOf(list []api.Deposit, d api.Deposit) ([]api.Deposit, api.Errno) {
	member := d.Member >= 0 && d.Member <= api.MaxMembers-1 && (d.Member == 0 || !d.New)
	if d.Account < 0 || d.Account > api.MaxAccounts-1 || !member || d.Amount < 1 || d.Amount > most {
		return nil, api.ErrArg
	}
	if len(list) > api.MaxLine-1 {
		return nil, api.ErrFull
	}
	return append(slices.Clone(list), d), api.OK
}

func oweOf(dues []api.Due, d api.Due) ([]api.Due, api.Errno) {
	if d.Account < 0 || d.Account > api.MaxAccounts-1 || d.At < 0 {
		return nil, api.ErrArg
	}
	if d.Amount > most {
		return nil, api.ErrOver
	}
	out := slices.Clone(dues)
	if d.Amount == 0 {
		return out, api.OK
	}
	for i, one := range out {
		if one.Account == d.Account && one.At == d.At {
			sum := new(big.Int).Add(num(one.Amount), num(d.Amount))
			if tooMuch(sum) {
				return nil, api.ErrOver
			}
			out[i].Amount = sum.Uint64()
			return out, api.OK
		}
	}
	place := 0
	for i, one := range out {
		if one.At <= d.At {
			place = i + 1
		}
	}
	return slices.Insert(out, place, d), api.OK
}

// partsOf is what is ripe, and the others.
func partsOf(dues []api.Due, now int) (ripe, rest []api.Due) {
	ripe = slices.DeleteFunc(slices.Clone(dues), func(d api.Due) bool { return d.At > now })
	rest = slices.DeleteFunc(slices.Clone(dues), func(d api.Due) bool { return d.At <= now })
	return ripe, rest
}

// together is what all of both is, over whole numbers.
func together(list []api.Deposit, dues []api.Due) *big.Int {
	sum := new(big.Int)
	for _, d := range list {
		sum.Add(sum, num(d.Amount))
	}
	for _, d := range dues {
		sum.Add(sum, num(d.Amount))
	}
	return sum
}

func heldAdd(t *testing.T, list []api.Deposit, d api.Deposit) {
	t.Helper()
	want, e := addOf(list, d)
	deposits.answers(t, add(d), list, want, e)
}

func heldOwe(t *testing.T, dues []api.Due, d api.Due) {
	t.Helper()
	want, e := oweOf(dues, d)
	debts.answers(t, owe(d), dues, want, e)
}

func heldParts(t *testing.T, dues []api.Due, now int) {
	t.Helper()
	ripe, rest := partsOf(dues, now)
	parts(t, dues, now, ripe, rest)
}

func heldSum(t *testing.T, list []api.Deposit, dues []api.Due) {
	t.Helper()
	if sum := together(list, dues); sum.IsUint64() {
		sums(t, list, dues, sum.Uint64(), api.OK)
	} else {
		sums(t, list, dues, 0, api.ErrOver)
	}
}

// P18.1: the pool with d as the last one, whoever waits ahead of it, and whatever they wait with.
func TestAdd(t *testing.T) {
	deposits.gives(t, add(dep(1, 2, 3)), nil, dep(1, 2, 3))
	deposits.gives(t, add(fresh(1, 3)), []api.Deposit{}, fresh(1, 3))
	deposits.gives(t, add(dep(0, 0, 1)), []api.Deposit{dep(5, 6, 7)}, dep(5, 6, 7), dep(0, 0, 1))
	deposits.gives(t, add(fresh(0, 1)), []api.Deposit{dep(5, 6, 7), fresh(2, 9)}, dep(5, 6, 7), fresh(2, 9), fresh(0, 1))
	// The same one may wait more than once.
	deposits.gives(t, add(dep(5, 6, 7)), []api.Deposit{dep(5, 6, 7)}, dep(5, 6, 7), dep(5, 6, 7))
	deposits.gives(t, add(fresh(5, 7)), []api.Deposit{fresh(5, 7)}, fresh(5, 7), fresh(5, 7))
	for _, list := range pools() {
		for _, d := range []api.Deposit{dep(1, 2, 3), fresh(3, 4), dep(0, 0, most)} {
			deposits.gives(t, add(d), list, append(slices.Clone(list), d)...)
		}
	}
}

// P18.1: an Account is from 0 to MaxAccounts - 1.
func TestAddAccount(t *testing.T) {
	for _, list := range pools() {
		for _, account := range []int{0, 1, 31, api.MaxAccounts - 1} {
			deposits.gives(t, add(dep(account, 4, 5)), list, append(slices.Clone(list), dep(account, 4, 5))...)
			deposits.gives(t, add(fresh(account, 5)), list, append(slices.Clone(list), fresh(account, 5))...)
		}
		for _, account := range []int{math.MinInt, math.MinInt + 1, -1 << 32, -64, -1, api.MaxAccounts, 65, 128, 1 << 32, math.MaxInt} {
			deposits.refuses(t, add(dep(account, 4, 5)), list, api.ErrArg)
			deposits.refuses(t, add(fresh(account, 5)), list, api.ErrArg)
		}
	}
}

// P18.1: a Member is from 0 to MaxMembers - 1, and 0 of a new one.
func TestAddMember(t *testing.T) {
	for _, list := range pools() {
		for _, member := range []int{0, 1, 64, api.MaxMembers - 1} {
			deposits.gives(t, add(dep(3, member, 5)), list, append(slices.Clone(list), dep(3, member, 5))...)
		}
		for _, member := range []int{math.MinInt, math.MinInt + 1, -1 << 32, -128, -1, api.MaxMembers, 129, 256, 1 << 32, math.MaxInt} {
			deposits.refuses(t, add(dep(3, member, 5)), list, api.ErrArg)
		}
		for _, member := range []int{math.MinInt, -1, 1, 2, api.MaxMembers - 1, api.MaxMembers, math.MaxInt} {
			deposits.refuses(t, add(api.Deposit{Account: 3, Member: member, Amount: 5, New: true}), list, api.ErrArg)
		}
		deposits.gives(t, add(fresh(3, 5)), list, append(slices.Clone(list), fresh(3, 5))...)
	}
}

// P18.1: an Amount is from 1 to MaxMoney.
func TestAddAmount(t *testing.T) {
	for _, list := range pools() {
		for _, amount := range []uint64{1, 2, 1 << 40, most - 1, most} {
			deposits.gives(t, add(dep(3, 4, amount)), list, append(slices.Clone(list), dep(3, 4, amount))...)
			deposits.gives(t, add(fresh(3, amount)), list, append(slices.Clone(list), fresh(3, amount))...)
		}
		for _, amount := range []uint64{0, most + 1, 1 << 63, top - 1, top} {
			deposits.refuses(t, add(dep(3, 4, amount)), list, api.ErrArg)
			deposits.refuses(t, add(fresh(3, amount)), list, api.ErrArg)
		}
	}
	// Amounts of those that wait aren't asked for: all together may be more than any number.
	full := slices.Repeat([]api.Deposit{dep(1, 1, most)}, api.MaxLine-1)
	deposits.gives(t, add(dep(1, 1, most)), full, slices.Repeat([]api.Deposit{dep(1, 1, most)}, api.MaxLine)...)
}

// P18.1: at most MaxLine wait.
func TestAddFull(t *testing.T) {
	for _, n := range []int{0, 1, 2, 100, api.MaxLine - 2, api.MaxLine - 1} {
		deposits.gives(t, add(dep(1, 2, 3)), waiting(n), append(waiting(n), dep(1, 2, 3))...)
		deposits.gives(t, add(fresh(1, 3)), waiting(n), append(waiting(n), fresh(1, 3))...)
	}
	for _, n := range []int{api.MaxLine, api.MaxLine + 1, api.MaxLine + 2, 3 * api.MaxLine, 1 << 16} {
		deposits.refuses(t, add(dep(1, 2, 3)), waiting(n), api.ErrFull)
		deposits.refuses(t, add(fresh(1, 3)), waiting(n), api.ErrFull)
	}
	// Filled one by one, each stands at its place.
	var list []api.Deposit
	for i, d := range waiting(api.MaxLine) {
		next, e := pool.Add(list, d)
		if e != api.OK || len(next) != i+1 {
			t.Fatal(i, len(next), e)
		}
		list = next
	}
	if !slices.Equal(list, waiting(api.MaxLine)) {
		t.Fatal(list)
	}
	deposits.refuses(t, add(dep(1, 2, 3)), list, api.ErrFull)
}

// P18.1: what is wrong of d goes ahead of there being no room.
func TestAddTwoFaults(t *testing.T) {
	wrong := []api.Deposit{
		{}, dep(-1, 2, 3), dep(api.MaxAccounts, 2, 3), dep(1, -1, 3), dep(1, api.MaxMembers, 3), dep(1, 2, 0), dep(1, 2, most+1),
		fresh(-1, 3), {Account: 1, Member: 1, Amount: 3, New: true}, {Account: 1, Member: -1, Amount: 3, New: true}, fresh(1, 0), fresh(1, top),
		dep(-1, -1, 0), dep(math.MaxInt, math.MaxInt, top), {Account: math.MinInt, Member: math.MinInt, Amount: top, New: true},
	}
	for _, d := range wrong {
		for _, n := range []int{0, 1, api.MaxLine - 1, api.MaxLine, api.MaxLine + 1} {
			deposits.refuses(t, add(d), waiting(n), api.ErrArg)
		}
	}
}

// P18.1: all edges of an account by all of a member by all of an amount, held against the chapter's words.
func TestAddAtTheEdges(t *testing.T) {
	for _, list := range [][]api.Deposit{nil, waiting(2), waiting(api.MaxLine)} {
		for _, account := range ints(api.MaxAccounts) {
			for _, member := range ints(api.MaxMembers) {
				for _, amount := range sizes() {
					heldAdd(t, list, api.Deposit{Account: account, Member: member, Amount: amount})
					heldAdd(t, list, api.Deposit{Account: account, Member: member, Amount: amount, New: true})
				}
			}
		}
	}
}

// P18.2: nothing is due yet, nil and empty.
func TestOweTheFirst(t *testing.T) {
	for _, dues := range [][]api.Due{nil, {}, make([]api.Due, 0, 4)} {
		for _, d := range []api.Due{due(1, 5, 3), due(0, 0, 1), due(api.MaxAccounts-1, math.MaxInt, most)} {
			got, e := pool.Owe(dues, d)
			if e != api.OK || !slices.Equal(got, []api.Due{d}) {
				t.Fatal(d, got, e)
			}
			debts.gives(t, owe(d), dues, d)
		}
		if got, e := pool.Owe(dues, due(1, 5, 0)); e != api.OK || len(got) != 0 {
			t.Fatal(got, e)
		}
	}
}

// P18.2: an account is from 0 to MaxAccounts - 1.
func TestOweAccount(t *testing.T) {
	for _, dues := range lists() {
		for _, account := range []int{0, 1, 31, api.MaxAccounts - 1} {
			heldOwe(t, dues, due(account, 40, 5))
			heldOwe(t, dues, due(account, 5, 5))
			if got, e := pool.Owe(dues, due(account, 40, 5)); e != api.OK || len(got) != len(dues)+1 {
				t.Fatal(dues, account, got, e)
			}
		}
		for _, account := range []int{math.MinInt, math.MinInt + 1, -1 << 32, -64, -1, api.MaxAccounts, 65, 128, 1 << 32, math.MaxInt} {
			for _, amount := range []uint64{0, 1, 5, most} {
				debts.refuses(t, owe(due(account, 40, amount)), dues, api.ErrArg)
				debts.refuses(t, owe(due(account, 0, amount)), dues, api.ErrArg)
			}
		}
	}
}

// P18.2: a tick is from 0 on, without an end.
func TestOweAt(t *testing.T) {
	for _, dues := range lists() {
		for _, at := range []int{0, 1, 50, 1 << 30, 1<<31 - 1, 1 << 31, 1 << 40, math.MaxInt - 1, math.MaxInt} {
			heldOwe(t, dues, due(3, at, 5))
			if got, e := pool.Owe(dues, due(3, at, 5)); e != api.OK || len(got) != len(dues)+1 {
				t.Fatal(dues, at, got, e)
			}
		}
		for _, at := range []int{math.MinInt, math.MinInt + 1, -1 << 32, -2, -1} {
			for _, amount := range []uint64{0, 1, 5, most} {
				debts.refuses(t, owe(due(3, at, amount)), dues, api.ErrArg)
			}
		}
	}
}

// P18.2: an Amount is at most MaxMoney.
func TestOweAmount(t *testing.T) {
	for _, dues := range lists() {
		for _, amount := range []uint64{1, 2, 1 << 40, most - 1, most} {
			if got, e := pool.Owe(dues, due(3, 5, amount)); e != api.OK || len(got) != len(dues)+1 {
				t.Fatal(dues, amount, got, e)
			}
			heldOwe(t, dues, due(3, 5, amount))
		}
		for _, amount := range []uint64{most + 1, 1 << 63, top - 3, top - 1, top} {
			debts.refuses(t, owe(due(3, 5, amount)), dues, api.ErrOver)
			debts.refuses(t, owe(due(1, 5, amount)), dues, api.ErrOver)
		}
	}
}

// P18.2: nothing changes by an Amount of 0, not even of what is due there already, above MaxMoney or not.
func TestOweNothing(t *testing.T) {
	for _, dues := range lists() {
		for _, account := range []int{0, 1, 3, api.MaxAccounts - 1} {
			for _, at := range []int{0, 2, 5, 6, math.MaxInt} {
				debts.gives(t, owe(due(account, at, 0)), dues, dues...)
			}
		}
	}
	for _, amount := range sizes() {
		debts.gives(t, owe(due(1, 5, 0)), []api.Due{due(1, 5, amount)}, due(1, 5, amount))
	}
}

// P18.2: faults are told in the chapter's order: an argument, an amount, what is together.
func TestOweTwoFaults(t *testing.T) {
	held := []api.Due{due(1, 5, most), due(-1, 5, most), due(1, -1, most), due(api.MaxAccounts, 5, most), due(1, 6, top)}
	for _, dues := range [][]api.Due{nil, held} {
		for _, d := range []api.Due{
			due(-1, 5, top), due(-1, 5, most+1), due(1, -1, top), due(api.MaxAccounts, 5, most+1), due(-1, -1, top),
			due(-1, 5, 0), due(1, -1, 0), due(-1, -1, 0), due(api.MaxAccounts, 5, 0), due(math.MinInt, math.MinInt, 0),
			due(-1, 5, 1), due(1, -1, 1), due(api.MaxAccounts, 5, 1), due(-1, -1, 1), due(math.MaxInt, math.MinInt, top),
		} {
			debts.refuses(t, owe(d), dues, api.ErrArg)
		}
	}
	debts.refuses(t, owe(due(1, 5, most+1)), held, api.ErrOver)
	debts.refuses(t, owe(due(1, 5, top)), held, api.ErrOver)
	debts.refuses(t, owe(due(1, 5, 1)), held, api.ErrOver)
	debts.refuses(t, owe(due(1, 6, 1)), held, api.ErrOver)
	debts.gives(t, owe(due(1, 5, 0)), held, held...)
	debts.gives(t, owe(due(1, 6, 0)), held, held...)
}

// P18.2: what is due to that account at that tick is so much more: at the first place, a middle one, and the last one.
func TestOweMore(t *testing.T) {
	dues := []api.Due{due(1, 5, 3), due(2, 5, 4), due(1, 6, 9), due(7, 6, 1), due(2, 8, 2)}
	for i, one := range dues {
		for _, amount := range []uint64{1, 2, 100, most - one.Amount} {
			want := slices.Clone(dues)
			want[i].Amount = one.Amount + amount
			debts.gives(t, owe(due(one.Account, one.At, amount)), dues, want...)
		}
		debts.refuses(t, owe(due(one.Account, one.At, most-one.Amount+1)), dues, api.ErrOver)
		debts.refuses(t, owe(due(one.Account, one.At, most)), dues, api.ErrOver)
	}
	debts.gives(t, owe(due(1, 5, 4)), []api.Due{due(1, 5, 3)}, due(1, 5, 7))
	// Nothing is due there yet, as it stands: it is so much more all the same, at its own place.
	debts.gives(t, owe(due(1, 5, 4)), []api.Due{due(1, 5, 0), due(2, 5, 1)}, due(1, 5, 4), due(2, 5, 1))
}

// P18.2: of two such ones the first is meant, whatever the second is, and wherever they stand.
func TestOweTheFirstOfTwo(t *testing.T) {
	debts.gives(t, owe(due(1, 5, 10)), []api.Due{due(1, 5, 3), due(1, 5, 4)}, due(1, 5, 13), due(1, 5, 4))
	debts.gives(t, owe(due(1, 5, 10)), []api.Due{due(1, 5, 3), due(1, 5, 4), due(1, 5, 5)}, due(1, 5, 13), due(1, 5, 4), due(1, 5, 5))
	debts.gives(t, owe(due(1, 5, 10)), []api.Due{due(2, 9, 1), due(1, 5, 3), due(3, 7, 2), due(1, 5, 4)}, due(2, 9, 1), due(1, 5, 13), due(3, 7, 2), due(1, 5, 4))
	debts.gives(t, owe(due(1, 5, 10)), []api.Due{due(1, 5, 3), due(1, 5, top)}, due(1, 5, 13), due(1, 5, top))
	debts.refuses(t, owe(due(1, 5, 10)), []api.Due{due(1, 5, most), due(1, 5, 3)}, api.ErrOver)
	debts.refuses(t, owe(due(1, 5, 10)), []api.Due{due(1, 5, top), due(1, 5, 3)}, api.ErrOver)
}

// P18.2: together at most MaxMoney, whatever others have, and nothing more where there is more already.
func TestOweTogether(t *testing.T) {
	for _, there := range sizes() {
		dues := []api.Due{due(2, 5, top), due(1, 5, there), due(1, 6, top)}
		for _, amount := range sizes() {
			heldOwe(t, dues, due(1, 5, amount))
		}
		if there < most {
			debts.gives(t, owe(due(1, 5, most-there)), dues, due(2, 5, top), due(1, 5, most), due(1, 6, top))
		}
		debts.refuses(t, owe(due(1, 5, most-min(most, there)+1)), dues, api.ErrOver)
	}
	for _, there := range []uint64{most + 1, 1 << 63, top - 1, top} {
		for _, amount := range []uint64{1, 2, 3, most - 1, most} {
			debts.refuses(t, owe(due(1, 5, amount)), []api.Due{due(1, 5, there)}, api.ErrOver)
		}
	}
}

// P18.2: the same account at another tick and another account at the same tick are others.
func TestOweOthers(t *testing.T) {
	dues := []api.Due{due(1, 5, most)}
	debts.gives(t, owe(due(1, 6, 2)), dues, due(1, 5, most), due(1, 6, 2))
	debts.gives(t, owe(due(1, 4, 2)), dues, due(1, 4, 2), due(1, 5, most))
	debts.gives(t, owe(due(2, 5, 2)), dues, due(1, 5, most), due(2, 5, 2))
	debts.gives(t, owe(due(0, 5, 2)), dues, due(1, 5, most), due(0, 5, 2))
	debts.gives(t, owe(due(5, 1, 2)), dues, due(5, 1, 2), due(1, 5, most))
	both := []api.Due{due(1, 5, 3), due(2, 6, 4)}
	debts.gives(t, owe(due(1, 6, 2)), both, due(1, 5, 3), due(2, 6, 4), due(1, 6, 2))
	debts.gives(t, owe(due(2, 5, 2)), both, due(1, 5, 3), due(2, 5, 2), due(2, 6, 4))
}

// P18.2: d stands behind all whose At is not above its own: ahead of all, between, behind all, and behind those with its own At.
func TestOwePlace(t *testing.T) {
	dues := []api.Due{due(1, 5, 3), due(2, 5, 4), due(3, 8, 5), due(4, 8, 6), due(5, 9, 7)}
	for at, place := range []int{0, 0, 0, 0, 0, 2, 2, 2, 4, 5, 5} {
		d := due(0, at, 1)
		debts.gives(t, owe(d), dues, slices.Insert(slices.Clone(dues), place, d)...)
	}
	debts.gives(t, owe(due(0, math.MaxInt, 1)), dues, append(slices.Clone(dues), due(0, math.MaxInt, 1))...)
	// Accounts don't order them.
	debts.gives(t, owe(due(0, 5, 1)), []api.Due{due(9, 5, 1), due(4, 5, 2)}, due(9, 5, 1), due(4, 5, 2), due(0, 5, 1))
}

// P18.2: of dues that aren't in the order of their At, d stands behind the last one whose At is not above its own.
func TestOweOutOfOrder(t *testing.T) {
	dues := []api.Due{due(1, 9, 3), due(2, 2, 4), due(3, 5, 9), due(4, 2, 8), due(5, 7, 1), due(6, 8, 2)}
	for at, place := range []int{0, 0, 4, 4, 4, 4, 4, 5, 6, 6, 6} {
		d := due(0, at, 1)
		debts.gives(t, owe(d), dues, slices.Insert(slices.Clone(dues), place, d)...)
	}
	debts.gives(t, owe(due(0, 3, 1)), []api.Due{due(1, 9, 3), due(2, 8, 4)}, due(0, 3, 1), due(1, 9, 3), due(2, 8, 4))
	debts.gives(t, owe(due(0, 3, 1)), []api.Due{due(1, 9, 3), due(2, math.MinInt, 4)}, due(1, 9, 3), due(2, math.MinInt, 4), due(0, 3, 1))
	// Such a one that stands behind is found too.
	debts.gives(t, owe(due(4, 2, 1)), dues, due(1, 9, 3), due(2, 2, 4), due(3, 5, 9), due(4, 2, 9), due(5, 7, 1), due(6, 8, 2))
}

// P18.2: all edges of an account by all of a tick by all of an amount, held against the chapter's words.
func TestOweAtTheEdges(t *testing.T) {
	for _, dues := range lists() {
		for _, account := range ints(api.MaxAccounts) {
			for _, at := range append(ints(5), 2, 6, 7, 9) {
				for _, amount := range sizes() {
					heldOwe(t, dues, due(account, at, amount))
				}
			}
		}
	}
}

// few are dues of few accounts and ticks, so that many are the same, in no order.
func few(dice *rand.Rand, n int) []api.Due {
	dues := make([]api.Due, dice.Intn(n))
	for i := range dues {
		dues[i] = due(dice.Intn(4)-1, dice.Intn(6)-1, sizes()[dice.Intn(len(sizes()))]>>dice.Intn(3))
	}
	return dues
}

// P18.2: mixed dues, held against the chapter's words.
func TestOweMixed(t *testing.T) {
	dice := rand.New(rand.NewSource(182))
	for range 30000 {
		d := due(dice.Intn(5)-1, dice.Intn(7)-1, sizes()[dice.Intn(len(sizes()))]>>dice.Intn(3))
		heldOwe(t, few(dice, 8), d)
	}
}

// P18.2: what is owed one by one stays in the order of its ticks, each account once at each.
func TestOweManyTimes(t *testing.T) {
	dice := rand.New(rand.NewSource(1822))
	var dues []api.Due
	for range 4000 {
		d := due(dice.Intn(api.MaxAccounts), dice.Intn(api.MaxWait+1), uint64(1+dice.Intn(1000)))
		want, _ := oweOf(dues, d)
		next, e := pool.Owe(dues, d)
		if e != api.OK || !slices.Equal(next, want) {
			t.Fatal(d, e)
		}
		dues = next
	}
	if len(dues) < 2000 || !slices.IsSortedFunc(dues, func(a, b api.Due) int { return a.At - b.At }) {
		t.Fatal(len(dues), dues)
	}
	seen := map[api.Due]bool{}
	for _, d := range dues {
		d.Amount = 0
		if seen[d] {
			t.Fatal(d)
		}
		seen[d] = true
	}
}

// P18.3: those whose At is not above now, in order, and the others, in order.
func TestRipe(t *testing.T) {
	dues := []api.Due{due(1, 3, 9), due(2, 5, 8), due(1, 5, 7), due(4, 8, 6)}
	parts(t, dues, math.MinInt, nil, dues)
	parts(t, dues, -1, nil, dues)
	parts(t, dues, 0, nil, dues)
	parts(t, dues, 2, nil, dues)
	parts(t, dues, 3, dues[:1], dues[1:])
	parts(t, dues, 4, dues[:1], dues[1:])
	parts(t, dues, 5, dues[:3], dues[3:])
	parts(t, dues, 6, dues[:3], dues[3:])
	parts(t, dues, 7, dues[:3], dues[3:])
	parts(t, dues, 8, dues, nil)
	parts(t, dues, 9, dues, nil)
	parts(t, dues, math.MaxInt, dues, nil)
}

// P18.3: of no dues, nil and empty.
func TestRipeOfNothing(t *testing.T) {
	for _, dues := range [][]api.Due{nil, {}, make([]api.Due, 0, 4)} {
		for _, now := range []int{math.MinInt, -1, 0, 5, math.MaxInt} {
			if ripe, rest := pool.Ripe(dues, now); len(ripe) != 0 || len(rest) != 0 {
				t.Fatal(now, ripe, rest)
			}
			parts(t, dues, now, nil, nil)
		}
	}
}

// P18.3: each tick on its own: one below it, just that, one above it, of any tick and any amount, those that may not be too.
func TestRipeAtTheEdges(t *testing.T) {
	for _, at := range ints(7) {
		for _, amount := range sizes() {
			one := []api.Due{due(-5, at, amount)}
			if at > math.MinInt {
				parts(t, one, at-1, nil, one)
			}
			parts(t, one, at, one, nil)
			if at < math.MaxInt {
				parts(t, one, at+1, one, nil)
			}
			parts(t, one, math.MaxInt, one, nil)
		}
	}
}

// P18.3: dues that aren't in the order of their At, each in the order in which it was handed in.
func TestRipeOutOfOrder(t *testing.T) {
	dues := []api.Due{due(1, 9, 3), due(2, 2, 4), due(3, 5, 9), due(4, 2, 8), due(5, 7, 1), due(2, 2, 4)}
	parts(t, dues, 1, nil, dues)
	parts(t, dues, 2, []api.Due{dues[1], dues[3], dues[5]}, []api.Due{dues[0], dues[2], dues[4]})
	parts(t, dues, 4, []api.Due{dues[1], dues[3], dues[5]}, []api.Due{dues[0], dues[2], dues[4]})
	parts(t, dues, 5, []api.Due{dues[1], dues[2], dues[3], dues[5]}, []api.Due{dues[0], dues[4]})
	parts(t, dues, 8, dues[1:], dues[:1])
	parts(t, dues, 9, dues, nil)
	dice := rand.New(rand.NewSource(183))
	for range 20000 {
		heldParts(t, few(dice, 12), dice.Intn(8)-2)
	}
	for _, dues := range lists() {
		for _, now := range ints(6) {
			heldParts(t, dues, now)
		}
	}
}

// P18.3: none of both, of the one alone, and of both.
func TestSum(t *testing.T) {
	for _, none := range [][]api.Deposit{nil, {}} {
		for _, nothing := range [][]api.Due{nil, {}} {
			if n, e := pool.Sum(none, nothing); n != 0 || e != api.OK {
				t.Fatal(n, e)
			}
			sums(t, none, nothing, 0, api.OK)
		}
		sums(t, none, []api.Due{due(1, 5, 3)}, 3, api.OK)
		sums(t, none, []api.Due{due(1, 5, 3), due(1, 5, 4), due(9, 0, 100)}, 107, api.OK)
	}
	for _, nothing := range [][]api.Due{nil, {}} {
		sums(t, []api.Deposit{dep(1, 5, 3)}, nothing, 3, api.OK)
		sums(t, []api.Deposit{dep(1, 5, 3), fresh(1, 4), dep(1, 5, 3)}, nothing, 10, api.OK)
	}
	sums(t, []api.Deposit{dep(1, 5, 3), fresh(2, 40)}, []api.Due{due(1, 5, 500), due(3, 7, 6000)}, 6543, api.OK)
	sums(t, []api.Deposit{dep(1, 5, 0)}, []api.Due{due(1, 5, 0)}, 0, api.OK)
	// Whatever else a thing is, its amount counts.
	sums(t, odd()[1:2], []api.Due{due(math.MinInt, math.MaxInt, 8)}, 8, api.OK)
	sums(t, waiting(api.MaxLine+1), nil, 257*100+256*257/2, api.OK)
}

// P18.3: a sum may be above MaxMoney, up to 2^64 - 1, and no further, by deposits alone, by dues alone, and by both.
func TestSumAtTheEdges(t *testing.T) {
	for _, n := range sizes() {
		sums(t, []api.Deposit{dep(1, 2, n)}, nil, n, api.OK)
		sums(t, nil, []api.Due{due(1, 2, n)}, n, api.OK)
		sums(t, []api.Deposit{dep(1, 2, n)}, []api.Due{due(1, 2, top-n)}, top, api.OK)
		sums(t, []api.Deposit{dep(1, 2, n), dep(1, 2, top-n)}, nil, top, api.OK)
		sums(t, nil, []api.Due{due(1, 2, n), due(1, 2, top-n)}, top, api.OK)
		sums(t, []api.Deposit{dep(1, 2, n), dep(1, 2, top-n), dep(1, 2, 1)}, nil, 0, api.ErrOver)
		sums(t, nil, []api.Due{due(1, 2, 1), due(1, 2, n), due(1, 2, top-n)}, 0, api.ErrOver)
		sums(t, []api.Deposit{dep(1, 2, n), fresh(1, 1)}, []api.Due{due(1, 2, top-n)}, 0, api.ErrOver)
		sums(t, []api.Deposit{dep(1, 2, n)}, []api.Due{due(1, 2, top-n), due(1, 2, 1)}, 0, api.ErrOver)
	}
	sums(t, []api.Deposit{dep(1, 2, most), dep(1, 2, 1)}, nil, most+1, api.OK)
	sums(t, []api.Deposit{dep(1, 2, most), dep(1, 2, most)}, []api.Due{due(1, 2, most), due(1, 2, most-1)}, top, api.OK)
	sums(t, []api.Deposit{dep(1, 2, most), dep(1, 2, most)}, []api.Due{due(1, 2, most), due(1, 2, most)}, 0, api.ErrOver)
	// A sum that is too much stays so, whatever follows, and wherever it is too much.
	sums(t, []api.Deposit{dep(1, 2, top), dep(1, 2, 1)}, []api.Due{due(1, 2, top), due(1, 2, 1)}, 0, api.ErrOver)
	sums(t, []api.Deposit{dep(1, 2, top), dep(1, 2, 1)}, []api.Due{due(1, 2, 5)}, 0, api.ErrOver)
	sums(t, []api.Deposit{dep(1, 2, 5)}, []api.Due{due(1, 2, 1<<63), due(1, 2, 1<<63)}, 0, api.ErrOver)
	sums(t, slices.Repeat([]api.Deposit{dep(1, 2, top)}, 300), slices.Repeat([]api.Due{due(1, 2, top)}, 300), 0, api.ErrOver)
}

// P18.3: mixed deposits and dues, held against whole numbers.
func TestSumMixed(t *testing.T) {
	dice := rand.New(rand.NewSource(1833))
	for range 20000 {
		list := make([]api.Deposit, dice.Intn(6))
		for i := range list {
			list[i] = dep(i, i, sizes()[dice.Intn(len(sizes()))]>>dice.Intn(4))
		}
		heldSum(t, list, few(dice, 6))
	}
}

// more asks that the sum behind is the one ahead and so much more, or too much just where that is.
func more(t *testing.T, list, listAfter []api.Deposit, dues, duesAfter []api.Due, by uint64) {
	t.Helper()
	heldSum(t, list, dues)
	want := together(list, dues)
	want.Add(want, num(by))
	if together(listAfter, duesAfter).Cmp(want) != 0 {
		t.Fatalf("of %v, %v: %v, %v, which is not %d more", list, dues, listAfter, duesAfter, by)
	}
	heldSum(t, listAfter, duesAfter)
}

// P18.4: what is added and what is owed is in the sum, just once.
func TestWhatIsAddedIsInTheSum(t *testing.T) {
	for _, list := range pools() {
		for _, dues := range lists() {
			for _, amount := range []uint64{1, 5, most - 3, most} {
				for _, d := range []api.Deposit{dep(1, 2, amount), fresh(1, amount)} {
					after, e := pool.Add(list, d)
					if e != api.OK {
						t.Fatal(d, e)
					}
					more(t, list, after, dues, dues, amount)
				}
			}
			for _, d := range []api.Due{due(1, 5, 0), due(1, 5, 1), due(1, 5, 5), due(0, 3, most), due(1, 2, 7), due(7, 9, most-9)} {
				after, e := pool.Owe(dues, d)
				if e != api.OK {
					t.Fatal(dues, d, e)
				}
				more(t, list, list, dues, after, d.Amount)
			}
		}
	}
}

// P18.4: what is ripe and what isn't are together all of it, each once, and their sums are.
func TestRipeLosesNothing(t *testing.T) {
	dice := rand.New(rand.NewSource(184))
	for range 20000 {
		dues := few(dice, 12)
		now := dice.Intn(8) - 2
		ripe, rest := pool.Ripe(dues, now)
		if together(nil, ripe).Add(together(nil, ripe), together(nil, rest)).Cmp(together(nil, dues)) != 0 {
			t.Fatal(dues, now, ripe, rest)
		}
		i, j := 0, 0
		for _, d := range dues {
			if i < len(ripe) && ripe[i] == d && d.At <= now {
				i++
			} else if j < len(rest) && rest[j] == d && d.At > now {
				j++
			} else {
				t.Fatal(dues, now, ripe, rest)
			}
		}
		if i != len(ripe) || j != len(rest) {
			t.Fatal(dues, now, ripe, rest)
		}
	}
}

// P18.4: a long row of deposits and dues, paid out as they are ripe: what came in is there still or was paid.
func TestNothingIsLost(t *testing.T) {
	dice := rand.New(rand.NewSource(1844))
	var list []api.Deposit
	var dues []api.Due
	var in, out uint64
	for now := range 3000 {
		n := uint64(dice.Intn(1000))
		if next, e := pool.Add(list, dep(dice.Intn(api.MaxAccounts), dice.Intn(api.MaxMembers), n)); e == api.OK {
			list, in = next, in+n
		} else if n != 0 && len(list) != api.MaxLine {
			t.Fatal(now, n, len(list), e)
		}
		if len(list) == api.MaxLine && dice.Intn(20) == 0 {
			paid, _ := pool.Sum(list, nil)
			list, out = nil, out+paid
		}
		next, e := pool.Owe(dues, due(dice.Intn(4), now+dice.Intn(api.MaxWait+1), n))
		if e != api.OK {
			t.Fatal(now, n, e)
		}
		dues, in = next, in+n
		ripe, rest := pool.Ripe(dues, now)
		paid, _ := pool.Sum(nil, ripe)
		dues, out = rest, out+paid
		if sum, e := pool.Sum(list, dues); e != api.OK || sum != in-out {
			t.Fatal(now, sum, e, in, out)
		}
	}
	if out == 0 || in == out {
		t.Fatal(in, out)
	}
}

// Rule 4: lists that came of one another share nothing.
func TestListsShareNothing(t *testing.T) {
	first := []api.Due{due(1, 5, 3), due(2, 6, 4)}
	still, _ := pool.Owe(first, due(1, 5, 0))
	again, _ := pool.Owe(still, due(9, 9, 0))
	ripe, _ := pool.Ripe(again, 9)
	_, rest := pool.Ripe(ripe, 4)
	chain := [][]api.Due{first, still, again, ripe, rest}
	for i, one := range chain {
		for _, other := range chain[i:] {
			if !slices.Equal(other, []api.Due{due(1, 5, 3), due(2, 6, 4)}) {
				t.Fatal(i, chain)
			}
		}
		debts.spoil(one)
	}
	// Two lists that came of one by Add stand each for itself, though there was room behind it.
	base, _ := pool.Add(make([]api.Deposit, 0, 8), dep(1, 1, 1))
	left, _ := pool.Add(base, dep(2, 2, 2))
	right, _ := pool.Add(base, dep(3, 3, 3))
	if !slices.Equal(base, []api.Deposit{dep(1, 1, 1)}) || left[1] != dep(2, 2, 2) || right[1] != dep(3, 3, 3) {
		t.Fatal(base, left, right)
	}
	deposits.spoil(base)
	deposits.spoil(left)
	if !slices.Equal(right, []api.Deposit{dep(1, 1, 1), dep(3, 3, 3)}) {
		t.Fatal(right)
	}
}

// Rule 5: what is answered hangs on the arguments alone, not on what was asked ahead.
func TestAskedAgain(t *testing.T) {
	held := []api.Due{due(1, 5, 3)}
	for range 3 {
		debts.gives(t, owe(due(1, 5, 4)), held, due(1, 5, 7))
		debts.refuses(t, owe(due(1, 5, most)), held, api.ErrOver)
		debts.refuses(t, owe(due(1, -5, 4)), held, api.ErrArg)
		debts.gives(t, owe(due(2, 4, 4)), held, due(2, 4, 4), due(1, 5, 3))
		deposits.gives(t, add(dep(1, 2, 3)), nil, dep(1, 2, 3))
		deposits.refuses(t, add(dep(1, 2, 3)), waiting(api.MaxLine), api.ErrFull)
		deposits.refuses(t, add(dep(1, 2, 0)), nil, api.ErrArg)
		sums(t, []api.Deposit{dep(1, 2, top)}, held, 0, api.ErrOver)
		sums(t, []api.Deposit{dep(1, 2, 4)}, held, 7, api.OK)
		parts(t, held, 4, nil, held)
		parts(t, held, 5, held, nil)
	}
}

// The chapter's examples.
func TestExamples(t *testing.T) {
	one, e := pool.Owe(nil, due(1, 5, 3))
	if e != api.OK {
		t.Fatal(e)
	}
	dues, e := pool.Owe(one, due(1, 5, 4))
	if e != api.OK || !slices.Equal(dues, []api.Due{due(1, 5, 7)}) {
		t.Fatal(dues, e)
	}
	if ripe, rest := pool.Ripe(dues, 4); len(ripe) != 0 || !slices.Equal(rest, dues) {
		t.Fatal(ripe, rest)
	}
}
