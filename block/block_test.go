package block_test

import (
	"bytes"
	"encoding/binary"
	"math"
	"math/rand"
	"reflect"
	"slices"
	"testing"

	"bullion/api"
	"bullion/block"
	"bullion/deed"
)

// simple are the parameters of the document's examples.
func simple() api.Params {
	return api.Params{
		Inc: 10, MaxEff: 30, Floor: 10, Cap: 40, Up: 10, Down: 5,
		Bias: 4, Quot: 100, BiasEm: 8, QuotEm: 50, Recover: 2, ScoreCap: 100,
		Rate: 1 << 20, Bond: 1, Delay: 2, Streak: 4, Boost: 100, Absent: 100, Burn: 5000,
		Churn: 2, Wait: 2, Poll: 2, Enact: 1, Quorum: 3000,
	}
}

// most are the parameters with each number as great as it may be.
func most() api.Params {
	return api.Params{
		Inc: api.MaxInc, MaxEff: api.MaxStake, Floor: api.MaxStake - 1, Cap: api.MaxStake, Up: api.MaxStake, Down: api.MaxStake,
		Bias: api.MaxBias, Quot: api.MaxQuot, BiasEm: api.MaxBias, QuotEm: api.MaxQuot, Recover: api.MaxBias, ScoreCap: api.MaxScore,
		Rate: api.MaxIssue, Bond: api.MaxStake, Delay: api.MaxTicks, Streak: api.MaxStreak, Boost: api.MaxBoost,
		Absent: api.MaxRate, Burn: api.MaxRate, Churn: api.MaxChurn, Wait: api.MaxWait, Poll: api.MaxTicks,
		Enact: api.MaxTicks, Quorum: api.MaxRate,
	}
}

// samples are deeds of all kinds, also the smallest and the greatest ones.
func samples() []api.Deed {
	return []api.Deed{
		{Kind: 1, Account: 3, To: 5, Amount: 300},
		{Kind: 2, Account: 4, Amount: 6},
		{Kind: 3, Account: 7, Member: 9, Amount: 1000},
		{Kind: 4, Account: 1, Member: 3},
		{Kind: 5, Epoch: 700, Bits: []byte{255, 0, 128}},
		{Kind: 6, Account: 11, What: 1, Params: simple()},
		{Kind: 6, Account: 12, What: 2, To: 13, Amount: 20000},
		{Kind: 6, Account: 14, What: 3},
		{Kind: 6, Account: 15, What: 4},
		{Kind: 7, Account: 16, Member: 17, Motion: 18, Yes: true},
		{Kind: 7, Account: 19, Member: 20, Motion: 21},
		{Kind: 1, Amount: 1},
		{Kind: 1, Account: 63, To: 63, Amount: api.MaxMoney},
		{Kind: 3, Member: 127, Amount: api.MaxMoney},
		{Kind: 4},
		{Kind: 5},
		{Kind: 5, Epoch: api.MaxEpoch, Bits: slices.Repeat([]byte{1}, 32)},
		{Kind: 6, Account: 63, What: 1, Params: most()},
		{Kind: 7},
	}
}

// wrongs are deeds that aren't right.
func wrongs() []api.Deed {
	return []api.Deed{
		{},
		{Kind: -1},
		{Kind: 8},
		{Kind: 1},
		{Kind: 1, Account: 64, Amount: 1},
		{Kind: 2, Amount: api.MaxMoney + 1},
		{Kind: 4, Member: 128},
		{Kind: 4, Amount: 1},
		{Kind: 5, Epoch: -1},
		{Kind: 5, Bits: make([]byte, 33)},
		{Kind: 5, Bits: make([]byte, api.MaxBytes+1)},
		{Kind: 6},
		{Kind: 6, What: 1},
		{Kind: 6, What: 5},
		{Kind: 7, Motion: 32},
		{Kind: 7, Params: simple()},
	}
}

// row is so many of the samples, beginning at one of them.
func row(first, count int) []api.Deed {
	all := samples()
	var list []api.Deed
	for i := range count {
		list = append(list, all[(first+i)%len(all)])
	}
	return list
}

// number is a number's bytes.
func number(n int) []byte { return binary.AppendUvarint(nil, uint64(n)) }

// text is a deed as layer 8's bytes.
func text(d api.Deed) []byte {
	b, e := deed.Encode(d)
	if e != api.OK {
		panic("not right")
	}
	return b
}

// texts are deeds as their bytes, one behind the other.
func texts(list []api.Deed) []byte {
	var b []byte
	for _, d := range list {
		b = append(b, text(d)...)
	}
	return b
}

// whole is a block of deeds that are right.
func whole(list []api.Deed) []byte { return slices.Concat(number(len(list)), texts(list)) }

// sameDeed says whether two deeds are the same, their Bits byte by byte.
func sameDeed(a, b api.Deed) bool {
	equal := slices.Equal(a.Bits, b.Bits)
	a.Bits, b.Bits = nil, nil
	return equal && reflect.DeepEqual(a, b)
}

func same(a, b []api.Deed) bool { return slices.EqualFunc(a, b, sameDeed) }

// coded asks that deeds are encoded as the chapter's form says, and are decoded as they were.
func coded(t *testing.T, list []api.Deed) {
	t.Helper()
	want := whole(list)
	if b, at, e := block.Encode(list); !bytes.Equal(b, want) || at != 0 || e != api.OK {
		t.Fatalf("%v, %d, %d, want %v of %+v", b, at, e, want, list)
	}
	if got, at, e := block.Decode(want); !same(got, list) || at != 0 || e != api.OK {
		t.Fatalf("%+v, %d, %d, want %+v", got, at, e, list)
	}
}

// refused asks that deeds are not encoded.
func refused(t *testing.T, list []api.Deed, at int, e api.Errno) {
	t.Helper()
	if b, place, why := block.Encode(list); len(b) != 0 || place != at || why != e {
		t.Fatalf("%v, %d, %d, want %d, %d", b, place, why, at, e)
	}
}

// P9.1, P9.2, P9.4: no deed, one of each kind, and several of all kinds, up to MaxDeeds.
func TestForm(t *testing.T) {
	coded(t, nil)
	coded(t, []api.Deed{})
	for _, d := range samples() {
		coded(t, []api.Deed{d})
	}
	for count := range api.MaxDeeds + 1 {
		for first := range samples() {
			coded(t, row(first, count))
		}
	}
}

// P9.1: blocks written out.
func TestBytes(t *testing.T) {
	for _, x := range []struct {
		list []api.Deed
		want []byte
	}{
		{nil, []byte{0}},
		{[]api.Deed{{Kind: 1, To: 1, Amount: 5}}, []byte{1, 1, 0, 1, 5}},
		{[]api.Deed{{Kind: 4, Account: 1, Member: 3}, {Kind: 2, Account: 2, Amount: 300}}, []byte{2, 4, 1, 3, 2, 2, 172, 2}},
		{[]api.Deed{{Kind: 2, Account: 2, Amount: 300}, {Kind: 4, Account: 1, Member: 3}}, []byte{2, 2, 2, 172, 2, 4, 1, 3}},
		{[]api.Deed{{Kind: 5, Bits: []byte{9}}, {Kind: 6, What: 3}, {Kind: 7, Yes: true}}, []byte{3, 5, 0, 1, 9, 6, 0, 3, 7, 0, 0, 0, 1}},
		{slices.Repeat([]api.Deed{{Kind: 4}}, 64), slices.Concat([]byte{64}, slices.Repeat([]byte{4, 0, 0}, 64))},
	} {
		if b, at, e := block.Encode(x.list); !bytes.Equal(b, x.want) || at != 0 || e != api.OK {
			t.Fatalf("%v, %d, %d, want %v", b, at, e, x.want)
		}
		if list, at, e := block.Decode(x.want); !same(list, x.list) || at != 0 || e != api.OK {
			t.Fatalf("%+v, %d, %d, want %+v", list, at, e, x.list)
		}
	}
}

// P9.1: ErrBig beside 0 of one deed more than MaxDeeds and of many more, ahead of deeds that aren't right, wherever they stand.
func TestTooMany(t *testing.T) {
	coded(t, row(0, api.MaxDeeds))
	for _, count := range []int{65, 66, 100, 128, 129, 256, 1 << 12} {
		list := row(0, count)
		refused(t, list, 0, api.ErrBig)
		for _, at := range []int{0, 1, 32, 62, 63, 64, count - 1} {
			for _, d := range wrongs() {
				mixed := slices.Clone(list)
				mixed[at] = d
				refused(t, mixed, 0, api.ErrBig)
			}
		}
		refused(t, make([]api.Deed, count), 0, api.ErrBig)
	}
}

// P9.1: ErrDeed beside the place of the deed that isn't right, the first one, one in the midst or the last one.
func TestWrong(t *testing.T) {
	for _, count := range []int{1, 2, 3, 5, 17, 63, 64} {
		for at := range count {
			for _, d := range wrongs() {
				list := row(at, count)
				list[at] = d
				refused(t, list, at, api.ErrDeed)
			}
		}
	}
}

// P9.1: of two deeds that aren't right, and of all of them, the first one.
func TestTwoWrong(t *testing.T) {
	bad := wrongs()
	for _, count := range []int{2, 3, 9, 64} {
		for one := range count {
			for two := one + 1; two < count; two++ {
				list := row(0, count)
				list[one], list[two] = bad[one%len(bad)], bad[two%len(bad)]
				refused(t, list, one, api.ErrDeed)
			}
		}
		refused(t, make([]api.Deed, count), 0, api.ErrDeed)
	}
}

// P9.1: the greatest deeds that are right are far from too many bytes for one block; one that isn't right is told by its place, also where its own bytes would be too many.
func TestGreatest(t *testing.T) {
	greatest := slices.MaxFunc(samples(), func(a, b api.Deed) int { return len(text(a)) - len(text(b)) })
	list := slices.Repeat([]api.Deed{greatest}, api.MaxDeeds)
	coded(t, list)
	if size := len(whole(list)); greatest.What != api.MoveParams || size > api.MaxBytes/8 {
		t.Fatal(greatest, size)
	}
	for at := range api.MaxDeeds {
		for _, size := range []int{33, api.MaxBytes - 4, api.MaxBytes, api.MaxBytes + 1} {
			list := slices.Repeat([]api.Deed{greatest}, api.MaxDeeds)
			list[at] = api.Deed{Kind: api.DeedMark, Bits: make([]byte, size)}
			refused(t, list, at, api.ErrDeed)
		}
	}
}

// P9.3: how many deeds there are of each kind, each kind at its place.
func TestKinds(t *testing.T) {
	if got := block.Kinds(nil); got != [8]int{} {
		t.Fatal(got)
	}
	if got := block.Kinds([]api.Deed{}); got != [8]int{} {
		t.Fatal(got)
	}
	for _, d := range samples() {
		want := [8]int{}
		want[d.Kind] = 1
		if got := block.Kinds([]api.Deed{d}); got != want {
			t.Fatal(got, want)
		}
	}
	if got := block.Kinds(samples()); got != [8]int{0, 3, 1, 2, 2, 3, 5, 3} {
		t.Fatal(got)
	}
	var list []api.Deed
	for kind := range 8 {
		list = append(list, slices.Repeat([]api.Deed{{Kind: kind}}, 10+kind)...)
	}
	if got := block.Kinds(list); got != [8]int{10, 11, 12, 13, 14, 15, 16, 17} {
		t.Fatal(got)
	}
}

// P9.3: deeds of kinds that there aren't stand at the place 0, together.
func TestOtherKinds(t *testing.T) {
	others := []int{
		math.MinInt, math.MinInt + 1, math.MinInt32, -256, -9, -8, -7, -2, -1, 0, 8, 9, 15, 16, 17, 255, 256, 257, 263,
		1 << 16, 1<<31 + 1, 1 << 32, 1<<32 + 1, 1<<32 + 7, math.MaxInt - 1, math.MaxInt,
	}
	var list []api.Deed
	for i, kind := range others {
		if got := block.Kinds([]api.Deed{{Kind: kind}}); got != [8]int{1} {
			t.Fatal(kind, got)
		}
		list = append(list, api.Deed{Kind: kind, Account: i, Yes: true}, api.Deed{Kind: 1 + i%7})
		want := block.Kinds(list[1:])
		want[0]++
		if got := block.Kinds(list); got != want || got[0] != i+1 {
			t.Fatal(kind, got, want)
		}
	}
}

// P9.3: also of more deeds than a block has, and whether they are right or not, by their kinds alone.
func TestManyKinds(t *testing.T) {
	dice := rand.New(rand.NewSource(9))
	for range 300 {
		var want [8]int
		var list []api.Deed
		all := slices.Concat(samples(), wrongs())
		for range dice.Intn(300) {
			d := all[dice.Intn(len(all))]
			if dice.Intn(3) == 0 {
				d.Kind = dice.Intn(14) - 3
			}
			list = append(list, d)
			if d.Kind > 0 && d.Kind < 8 {
				want[d.Kind]++
			} else {
				want[0]++
			}
		}
		if got := block.Kinds(list); got != want {
			t.Fatal(got, want)
		}
	}
	if got := block.Kinds(make([]api.Deed, 1<<16)); got != [8]int{1 << 16} {
		t.Fatal(got)
	}
}

// P9.1: what is encoded of mixed deeds, some of which aren't right, is told as the chapter's words say.
func TestMixed(t *testing.T) {
	dice := rand.New(rand.NewSource(19))
	good, bad, big := 0, 0, 0
	for range 5000 {
		list := row(dice.Intn(len(samples())), dice.Intn(api.MaxDeeds+3))
		for i := range list {
			if dice.Intn(60) == 0 {
				list[i] = wrongs()[dice.Intn(len(wrongs()))]
			}
		}
		at := slices.IndexFunc(list, func(d api.Deed) bool { return !deed.Right(d) })
		switch {
		case len(list) > 64:
			big++
			refused(t, list, 0, api.ErrBig)
		case at >= 0:
			bad++
			refused(t, list, at, api.ErrDeed)
		default:
			good++
			coded(t, list)
		}
	}
	if good < 500 || bad < 500 || big < 50 {
		t.Fatal(good, bad, big)
	}
}

// The chapter's examples.
func TestExamples(t *testing.T) {
	if b, at, e := block.Encode(nil); !bytes.Equal(b, []byte{0}) || at != 0 || e != api.OK {
		t.Fatal(b, at, e)
	}
	if list, at, e := block.Decode([]byte{0}); len(list) != 0 || at != 0 || e != api.OK {
		t.Fatal(list, at, e)
	}
	list, at, e := block.Decode([]byte{1, 4, 1, 3})
	if !same(list, []api.Deed{{Kind: api.DeedLeave, Account: 1, Member: 3}}) || at != 0 || e != api.OK {
		t.Fatal(list, at, e)
	}
	if b, at, e := block.Encode(list); !bytes.Equal(b, []byte{1, 4, 1, 3}) || at != 0 || e != api.OK {
		t.Fatal(b, at, e)
	}
}
