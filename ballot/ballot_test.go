package ballot_test

import (
	"bytes"
	"math"
	"math/big"
	"math/rand"
	"slices"
	"testing"

	"bullion/api"
	"bullion/ballot"
	"bullion/param"
)

const (
	top  = 1<<64 - 1
	rate = api.MaxRate
)

// statuses are all that there are, and others are numbers that are none.
func statuses() []int {
	return []int{api.StatusPending, api.StatusActive, api.StatusLeaving, api.StatusOut, api.StatusLeft}
}

func others() []int {
	return []int{0, -1, -2, -3, 6, 7, 1<<32 + api.StatusActive, 1<<32 + api.StatusLeaving, math.MinInt, math.MinInt + 2, math.MaxInt - 1, math.MaxInt}
}

// counts says whether members of a status count, by chapter 19's words.
func counts(status int) bool { return status == api.StatusActive || status == api.StatusLeaving }

// idle are the statuses and numbers of which none counts.
func idle() []int {
	return slices.DeleteFunc(append(statuses(), others()...), counts)
}

// one is a member with a status and an effective balance, and other numbers that aren't asked for.
func one(status int, eff uint64) api.Member {
	return api.Member{Standing: api.Standing{Balance: top - eff, Eff: eff, Score: 77, Streak: 3}, Owner: 5, Status: status}
}

// active are members that count, with these effective balances; every other one waits to leave.
func active(effs ...uint64) []api.Member {
	var list []api.Member
	for i, n := range effs {
		list = append(list, one(api.StatusActive+i%2, n))
	}
	return list
}

// ones are so many bytes of which all bits are 1.
func ones(n int) []byte { return bytes.Repeat([]byte{0xff}, n) }

// voting are so many bytes in which the bits at these places are 1.
func voting(size int, places ...int) []byte {
	b := make([]byte, size)
	for _, i := range places {
		b[i/8] |= 1 << (i % 8)
	}
	return b
}

// turned are bytes of which each bit is the other way.
func turned(b []byte) []byte {
	b = slices.Clone(b)
	for i := range b {
		b[i] = ^b[i]
	}
	return b
}

// worth is what bytes are worth together, the first one least.
func worth(b []byte) *big.Int {
	b = slices.Clone(b)
	slices.Reverse(b)
	return new(big.Int).SetBytes(b)
}

// whole is a number as a whole number.
func whole(n uint64) *big.Int { return new(big.Int).SetUint64(n) }

// weightOf is what some of those that count weigh together, by the chapter's words over whole numbers.
func weightOf(members []api.Member, chosen func(place int) bool) *big.Int {
	sum := new(big.Int)
	for i, m := range members {
		if counts(m.Status) && chosen(i) {
			sum.Add(sum, whole(m.Eff))
		}
	}
	return sum
}

// weighOf is what votes weigh, likewise.
func weighOf(members []api.Member, votes []byte) (uint64, api.Errno) {
	all := worth(votes)
	sum := weightOf(members, func(i int) bool { return all.Bit(i) == 1 })
	if !sum.IsUint64() {
		return 0, api.ErrOver
	}
	return sum.Uint64(), api.OK
}

// countOf is what votes weigh on both sides, likewise.
func countOf(members []api.Member, yes, no []byte) (ballot.Tally, api.Errno) {
	all := weightOf(members, func(int) bool { return true })
	if !all.IsUint64() {
		return ballot.Tally{}, api.ErrOver
	}
	pro, _ := weighOf(members, yes)
	contra, _ := weighOf(members, no)
	return ballot.Tally{Yes: pro, No: contra, Active: all.Uint64()}, api.OK
}

// passesOf says whether enough are for it, likewise.
func passesOf(p api.Params, x ballot.Tally) bool {
	voted := new(big.Int).Add(whole(x.Yes), whole(x.No))
	if p.Quorum < 0 || x.Active == 0 || x.Yes <= x.No || !voted.IsUint64() {
		return false
	}
	has := new(big.Int).Mul(voted, big.NewInt(rate))
	return has.Cmp(new(big.Int).Mul(big.NewInt(int64(p.Quorum)), whole(x.Active))) >= 0
}

// roomy is a list with spare room on both sides, full of other things, and all the memory in which it stands.
func roomy[T any](list []T, other T) (inner, memory []T) {
	memory = slices.Concat(slices.Repeat([]T{other}, 3), list, slices.Repeat([]T{other}, 9))
	return memory[3 : 3+len(list)], memory
}

// lists are members and votes with spare room, all of their memory, and how it was. What stands in it would weigh much, and overflow.
type lists struct {
	members, allMembers, wasMembers []api.Member
	votes, allVotes, wasVotes       [2][]byte
}

func handed(members []api.Member, votes ...[]byte) *lists {
	x := &lists{}
	x.members, x.allMembers = roomy(members, one(api.StatusActive, top))
	x.wasMembers = slices.Clone(x.allMembers)
	for i, b := range votes {
		x.votes[i], x.allVotes[i] = roomy(b, 0xff)
		x.wasVotes[i] = slices.Clone(x.allVotes[i])
	}
	return x
}

// stays asks that all that was handed in is as it was.
func (x *lists) stays(t *testing.T) {
	t.Helper()
	if !slices.Equal(x.allMembers, x.wasMembers) {
		t.Fatalf("%v are now %v", x.wasMembers, x.allMembers)
	}
	for i, b := range x.allVotes {
		if !bytes.Equal(b, x.wasVotes[i]) {
			t.Fatalf("%v are now %v", x.wasVotes[i], b)
		}
	}
}

// weighed asks what votes weigh, and that what was handed in stays.
func weighed(t *testing.T, members []api.Member, votes []byte, want uint64, wantE api.Errno) {
	t.Helper()
	x := handed(members, votes)
	if n, e := ballot.Weigh(x.members, x.votes[0]); n != want || e != wantE {
		t.Fatalf("Weigh(%v, %v): %d, %d, want %d, %d", members, votes, n, e, want, wantE)
	}
	x.stays(t)
	if n, e := weighOf(members, votes); n != want || e != wantE {
		t.Fatalf("of %v, %v the chapter's words ask for %d, %d, not for %d, %d", members, votes, n, e, want, wantE)
	}
}

// counted asks what votes weigh on both sides, and that what was handed in stays.
func counted(t *testing.T, members []api.Member, yes, no []byte, want ballot.Tally, wantE api.Errno) {
	t.Helper()
	x := handed(members, yes, no)
	if n, e := ballot.Count(x.members, x.votes[0], x.votes[1]); n != want || e != wantE {
		t.Fatalf("Count(%v, %v, %v): %v, %d, want %v, %d", members, yes, no, n, e, want, wantE)
	}
	x.stays(t)
	if n, e := countOf(members, yes, no); n != want || e != wantE {
		t.Fatalf("of %v, %v, %v the chapter's words ask for %v, %d, not for %v, %d", members, yes, no, n, e, want, wantE)
	}
}

// held asks both by the chapter's words.
func held(t *testing.T, members []api.Member, yes, no []byte) {
	t.Helper()
	for _, votes := range [][]byte{yes, no} {
		n, e := weighOf(members, votes)
		weighed(t, members, votes, n, e)
	}
	x, e := countOf(members, yes, no)
	counted(t, members, yes, no, x, e)
}

// passed asks whether enough are for it.
func passed(t *testing.T, quorum int, x ballot.Tally, want bool) {
	t.Helper()
	p := api.Params{Quorum: quorum}
	if got := ballot.Passes(p, x); got != want || passesOf(p, x) != want {
		t.Fatalf("Passes of Quorum %d, %v: %v, want %v", quorum, x, got, want)
	}
}

// passing says whether enough are for it, asked by the chapter's words too.
func passing(t *testing.T, quorum int, x ballot.Tally) bool {
	t.Helper()
	want := passesOf(api.Params{Quorum: quorum}, x)
	passed(t, quorum, x, want)
	return want
}

// quorums are numbers of Quorum at which something changes.
func quorums() []int {
	return []int{
		math.MinInt, math.MinInt + 1, -1 << 32, -rate, -2, -1, 0, 1, 2, 3000, 4999, 5000, 5001,
		rate - 1, rate, rate + 1, 2 * rate, 2*rate + 1, 1 << 32, 1<<32 + 1, math.MaxInt - 1, math.MaxInt,
	}
}

// around are a number above 0, the one below it, and the one above it, if there is one.
func around(n uint64) []uint64 {
	return slices.Compact([]uint64{n - 1, n, max(n, n+1)})
}

// amounts are numbers of a tally at which something changes.
func amounts() []uint64 {
	return []uint64{
		0, 1, 2, 3, 9, 10, 99, 100, rate - 1, rate, rate + 1, 1<<32 - 1, 1 << 32, 1<<62 - 1, 1 << 62,
		1<<63 - 1, 1 << 63, 1<<63 + 1, top / rate, top/rate + 1, top - 1, top,
	}
}

// P22.1: of no members, and of no votes, nothing weighs.
func TestWeighNone(t *testing.T) {
	many := active(slices.Repeat([]uint64{top}, 20)...)
	for _, votes := range [][]byte{nil, {}, {0}, {1}, ones(1), ones(16), ones(100)} {
		weighed(t, nil, votes, 0, api.OK)
		weighed(t, []api.Member{}, votes, 0, api.OK)
	}
	for _, votes := range [][]byte{nil, {}, {0}, make([]byte, 2), make([]byte, 3), make([]byte, 16), make([]byte, 100)} {
		weighed(t, many, votes, 0, api.OK)
		weighed(t, active(5), votes, 0, api.OK)
	}
}

// P22.1: the effective balances of those whose bit is 1, and no others.
func TestWeigh(t *testing.T) {
	three := active(20, 30, 7)
	for votes, want := range []uint64{0, 20, 30, 50, 7, 27, 37, 57} {
		weighed(t, three, []byte{byte(votes)}, want, api.OK)
		weighed(t, three, []byte{byte(votes), 0xff}, want, api.OK)
		for behind := range 32 { // bits behind the last member's place
			weighed(t, three, []byte{byte(votes | behind<<3)}, want, api.OK)
		}
	}
	weighed(t, three, ones(1), 57, api.OK)
	weighed(t, three, ones(99), 57, api.OK)
	weighed(t, active(0, 0, 0), ones(1), 0, api.OK)
	weighed(t, active(0, 1, 0), ones(1), 1, api.OK)
	weighed(t, active(top), []byte{1}, top, api.OK)
	weighed(t, active(top, top), []byte{1}, top, api.OK)
	weighed(t, active(top, top), []byte{2}, top, api.OK)
	weighed(t, active(top, top), []byte{4}, 0, api.OK)
}

// P22.1: votes that end ahead of the last member's place.
func TestWeighShort(t *testing.T) {
	for _, n := range []int{1, 7, 8, 9, 15, 16, 17, 128, 129, 256, 257, 300} {
		members := active(slices.Repeat([]uint64{3}, n)...)
		for size := range 45 {
			want := uint64(3 * min(n, 8*size))
			weighed(t, members, ones(size), want, api.OK)
			weighed(t, members, make([]byte, size), 0, api.OK)
		}
	}
}

// P22.1: each place by itself, also those behind the most members, and behind the most bits of a field.
func TestWeighPlaces(t *testing.T) {
	places := []int{0, 1, 6, 7, 8, 9, 15, 16, 126, 127, 128, 129, 254, 255, 256, 257, 511, 512, 513, 998, 999, 1000, 1001}
	for _, n := range []int{1, 2, 8, 9, 128, 129, 256, 257, 258, 1000} {
		members := numbered(n)
		for _, place := range places {
			want := uint64(0)
			if place < n {
				want = uint64(1000 + place)
			}
			size := place/8 + 1
			weighed(t, members, voting(size, place), want, api.OK)
			weighed(t, members, voting(200, place), want, api.OK)
			held(t, members, append(voting(size, place), ones(130)...), append(ones(size-1), voting(1, place%8)...))
			held(t, members, ones(size-1), make([]byte, size-1)) // They end ahead of the place.
		}
	}
}

// numbered are so many members that count, each of which weighs its place and 1000.
func numbered(n int) []api.Member {
	var effs []uint64
	for i := range n {
		effs = append(effs, uint64(1000+i))
	}
	return active(effs...)
}

// P22.1: members of every status, and of those that are none.
func TestWeighStatuses(t *testing.T) {
	for _, status := range append(statuses(), others()...) {
		for _, eff := range []uint64{0, 1, 30, top} {
			want := uint64(0)
			if counts(status) {
				want = eff
			}
			list := []api.Member{one(status, eff)}
			weighed(t, list, []byte{0}, 0, api.OK)
			weighed(t, list, []byte{1}, want, api.OK)
			weighed(t, list, []byte{0xfe}, 0, api.OK)
			weighed(t, list, nil, 0, api.OK)
		}
	}
}

// P22.1: effective balances just 2^64 - 1 together, and one more, wherever that one is.
func TestWeighEdge(t *testing.T) {
	for _, list := range [][]uint64{
		{top}, {top, 0}, {0, top}, {0, 0, top, 0}, {top - 1, 1}, {1, top - 1}, {1 << 63, 1<<63 - 1}, {1<<63 - 1, 1 << 63},
		{1 << 62, 1 << 62, 1 << 62, 1<<62 - 1}, {top - 2, 1, 1}, {1, top - 2, 1}, {1, 1, top - 2},
	} {
		all := ones(4)
		weighed(t, active(list...), all, top, api.OK)
		counted(t, active(list...), all, all, ballot.Tally{Yes: top, No: top, Active: top}, api.OK)
		for i := range list {
			more := slices.Insert(slices.Clone(list), i, 1)
			weighed(t, active(more...), all, 0, api.ErrOver)
			weighed(t, active(more...), turned(voting(4, i)), top, api.OK)
			counted(t, active(more...), all, nil, ballot.Tally{}, api.ErrOver)
			if list[i] < top {
				more = slices.Clone(list)
				more[i]++
				weighed(t, active(more...), all, 0, api.ErrOver)
			}
		}
		weighed(t, active(append(list, 1)...), all, 0, api.ErrOver)
		weighed(t, active(append(list, top)...), all, 0, api.ErrOver)
	}
	for _, x := range [][]uint64{{top, top}, {top, top, top, 2}, {1 << 63, 1 << 63}, {1 << 63, 1 << 63, 1 << 63, 1 << 63, 5}, {1, top, 1, top}} {
		weighed(t, active(x...), ones(1), 0, api.ErrOver)
	}
}

// P22.1: many small ones just 2^64 - 1 together, and one more.
func TestWeighMany(t *testing.T) {
	const n = 1 << 12
	list := slices.Repeat([]uint64{1 << 52}, n)
	weighed(t, active(list...), ones(n/8), 0, api.ErrOver)
	weighed(t, active(list...), turned(voting(n/8, 77)), top-(1<<52)+1, api.OK)
	for _, i := range []int{0, 1, n / 2, n - 2, n - 1} {
		list[i]--
		weighed(t, active(list...), ones(n/8), top, api.OK)
		list[i]++
	}
	weighed(t, active(slices.Repeat([]uint64{1}, n)...), ones(n/8), n, api.OK)
}

// P22.1: a balance is not what weighs.
func TestWeighBalance(t *testing.T) {
	for _, balance := range []uint64{0, 1, 27, top} {
		m := api.Member{Standing: api.Standing{Balance: balance, Eff: 20, Score: top, Streak: -1}, Owner: -1, Status: api.StatusActive}
		weighed(t, []api.Member{m, m}, []byte{3}, 40, api.OK)
		counted(t, []api.Member{m, m}, []byte{1}, []byte{2}, ballot.Tally{Yes: 20, No: 20, Active: 40}, api.OK)
		m.Eff = 0
		weighed(t, []api.Member{m, m}, []byte{3}, 0, api.OK)
		counted(t, []api.Member{m, m}, []byte{1}, []byte{2}, ballot.Tally{}, api.OK)
	}
}

// P22.1: both sides, and all that count.
func TestCount(t *testing.T) {
	three := active(20, 30, 7)
	for yes, pro := range []uint64{0, 20, 30, 50, 7, 27, 37, 57} {
		for no, contra := range []uint64{0, 20, 30, 50, 7, 27, 37, 57} {
			counted(t, three, []byte{byte(yes)}, []byte{byte(no)}, ballot.Tally{Yes: pro, No: contra, Active: 57}, api.OK)
			counted(t, three, []byte{byte(yes) | 0xf8}, []byte{byte(no) | 0x88, 9}, ballot.Tally{Yes: pro, No: contra, Active: 57}, api.OK)
		}
	}
	for _, none := range [][]byte{nil, {}, {0}, make([]byte, 16)} {
		counted(t, three, none, none, ballot.Tally{Active: 57}, api.OK)
		counted(t, three, none, ones(2), ballot.Tally{No: 57, Active: 57}, api.OK)
		counted(t, three, ones(2), none, ballot.Tally{Yes: 57, Active: 57}, api.OK)
		counted(t, nil, none, ones(3), ballot.Tally{}, api.OK)
		counted(t, []api.Member{}, ones(3), none, ballot.Tally{}, api.OK)
	}
}

// P22.1: the votes of both sides may be one list.
func TestCountItself(t *testing.T) {
	votes := []byte{5, 1}
	members := active(1, 2, 4, 8, 16, 32, 64, 128, 256, 512)
	x, e := ballot.Count(members, votes, votes)
	if want := (ballot.Tally{Yes: 261, No: 261, Active: 1023}); x != want || e != api.OK || !bytes.Equal(votes, []byte{5, 1}) {
		t.Fatal(x, e, votes)
	}
}

// P22.1: members of every status, in yes, in no, in both and in neither.
func TestCountStatuses(t *testing.T) {
	for _, status := range append(statuses(), others()...) {
		for votes := range 4 {
			yes, no := []byte{byte(votes & 1)}, []byte{byte(votes >> 1)}
			for _, eff := range []uint64{0, 1, 30, top} {
				want := ballot.Tally{}
				if counts(status) {
					want = ballot.Tally{Yes: eff * uint64(yes[0]), No: eff * uint64(no[0]), Active: eff}
				}
				counted(t, []api.Member{one(status, eff)}, yes, no, want, api.OK)
			}
		}
	}
}

// P22.1: all that count just 2^64 - 1 together, and one more, whatever the sides weigh.
func TestCountEdge(t *testing.T) {
	for _, list := range [][]uint64{{5, top - 5}, {1, 2, top - 3}, {top, 0}, {0, 0, top}, {1 << 63, 1<<63 - 1}, {3, 1 << 63, 4, 1<<63 - 8}} {
		for place := range list {
			for _, yes := range [][]byte{nil, {0}, voting(1, place), turned(voting(1, place)), ones(1)} {
				for _, no := range [][]byte{nil, {}, voting(1, place), turned(voting(1, place)), ones(2)} {
					pro, _ := weighOf(active(list...), yes)
					contra, _ := weighOf(active(list...), no)
					counted(t, active(list...), yes, no, ballot.Tally{Yes: pro, No: contra, Active: top}, api.OK)
					// The one more has no vote, but counts.
					for _, i := range []int{0, len(list) / 2, len(list)} {
						more := slices.Insert(active(list...), i, one(api.StatusLeaving, 1))
						counted(t, more, yes, no, ballot.Tally{}, api.ErrOver)
						more[i].Status = api.StatusPending
						held(t, more, yes, no)
						if _, e := ballot.Count(more, yes, no); e != api.OK {
							t.Fatal(more, e)
						}
					}
				}
			}
		}
	}
}

// P22.1: many small ones that count, of whom few vote.
func TestCountMany(t *testing.T) {
	const n = 1 << 12
	list := slices.Repeat([]uint64{1 << 52}, n)
	counted(t, active(list...), []byte{1}, []byte{6}, ballot.Tally{}, api.ErrOver)
	counted(t, active(list...), nil, nil, ballot.Tally{}, api.ErrOver)
	list[n-1]--
	counted(t, active(list...), []byte{1}, []byte{6}, ballot.Tally{Yes: 1 << 52, No: 1 << 53, Active: top}, api.OK)
	counted(t, active(list...), ones(n/8), voting(n/8, n-1), ballot.Tally{Yes: top, No: 1<<52 - 1, Active: top}, api.OK)
}

// P22.1: Weigh asks for room only for those whose bit is 1, where Count asks for all.
func TestWeighLess(t *testing.T) {
	list := active(top, 5, top)
	weighed(t, list, []byte{2}, 5, api.OK)
	weighed(t, list, []byte{1}, top, api.OK)
	weighed(t, list, []byte{3}, 0, api.ErrOver)
	counted(t, list, []byte{2}, nil, ballot.Tally{}, api.ErrOver)
	counted(t, list, nil, []byte{2}, ballot.Tally{}, api.ErrOver)
}

// P22.2: just the quorum, one below it and one above it, of small numbers.
func TestPassesQuorum(t *testing.T) {
	for _, x := range []struct {
		quorum              int
		active, just, below uint64 // of yes and no together
	}{
		{3000, 100, 30, 29}, {5000, 100, 50, 49}, {5000, 101, 51, 50}, {5000, 99, 50, 49}, {1, 100, 1, 0}, {1, rate, 1, 0}, {1, rate + 1, 2, 1},
		{1, 2 * rate, 2, 1}, {rate, 100, 100, 99}, {rate, 1, 1, 0}, {rate + 1, 100, 101, 100}, {rate + 1, 1, 2, 1}, {3333, 3, 1, 0}, {3334, 3, 2, 1},
		{rate - 1, 1, 1, 0}, {rate - 1, rate, rate - 1, rate - 2}, {2 * rate, 7, 14, 13}, {2*rate + 1, 7, 15, 14},
	} {
		for voted, want := range map[uint64]bool{x.just: true, x.just + 1: true, x.just + 2: true, 10 * x.just: true, x.below: false, x.below / 2: false} {
			for no := uint64(0); no <= 12 && 2*no < voted; no++ {
				passed(t, x.quorum, ballot.Tally{Yes: voted - no, No: no, Active: x.active}, want)
			}
			half := voted / 2
			passed(t, x.quorum, ballot.Tally{Yes: half, No: voted - half, Active: x.active}, false)
		}
	}
}

// P22.2: products that are just what is needed, and with each of their factors one less and one more.
func TestPassesJust(t *testing.T) {
	for _, x := range []struct {
		quorum        int
		voted, active uint64
	}{
		{3, 3, rate}, {rate, 1 << 60, 1 << 60}, {rate, top, top}, {5000, 1 << 62, 1 << 63}, {2500, 1 << 61, 1 << 63}, {2 * rate, 1 << 63, 1 << 62},
		{1, 1844674407370955, 18446744073709550000}, {625, 1 << 50, 1 << 54}, {rate << 26, 7 << 46, 7 << 20}, {1 << 32, 3 << 32, 3 * rate},
	} {
		passed(t, x.quorum, ballot.Tally{Yes: x.voted, Active: x.active}, true)
		passed(t, x.quorum, ballot.Tally{Yes: x.voted - 1, Active: x.active}, false)
		passed(t, x.quorum+1, ballot.Tally{Yes: x.voted, Active: x.active}, false)
		for _, q := range []int{x.quorum - 1, x.quorum, x.quorum + 1} {
			for _, voted := range around(x.voted) {
				for _, active := range around(x.active) {
					passing(t, q, ballot.Tally{Yes: voted, Active: active})
					passing(t, q, ballot.Tally{Yes: voted - 1, No: 1, Active: active})
					passing(t, q, ballot.Tally{Yes: voted/2 + 1, No: voted - voted/2 - 1, Active: active})
				}
			}
		}
	}
	passed(t, 3, ballot.Tally{Yes: 3, Active: rate}, true)
	passed(t, 3, ballot.Tally{Yes: 3, Active: rate + 1}, false)
	passed(t, 4, ballot.Tally{Yes: 3, Active: rate}, false)
	passed(t, 9999, ballot.Tally{Yes: 9999, Active: rate}, true)
	passed(t, rate, ballot.Tally{Yes: top, Active: top}, true)
	passed(t, rate+1, ballot.Tally{Yes: top, Active: top}, false)
	passed(t, rate, ballot.Tally{Yes: top - 1, Active: top}, false)
	passed(t, rate, ballot.Tally{Yes: top - 1, No: 1, Active: top}, true)
	passed(t, 5000, ballot.Tally{Yes: 1<<63 - 1, Active: top}, false)
	passed(t, 5000, ballot.Tally{Yes: 1 << 63, Active: top}, true)
	passed(t, 4999, ballot.Tally{Yes: 1<<63 - 1, Active: top}, true)
}

// P22.2: a product of more than 64 bits that is one below what is needed, just that, and one above.
func TestPassesOne(t *testing.T) {
	dice := rand.New(rand.NewSource(22))
	for _, by := range []int64{-1, 0, 1} {
		for range 200 {
			// voted · MaxRate + by = quorum · active: of an odd quorum that isn't a five's multiple one voted is found.
			quorum := int64(2*dice.Intn(1<<30) + 1<<31 + 1)
			for quorum%5 == 0 {
				quorum += 2
			}
			back := new(big.Int).ModInverse(big.NewInt(rate), big.NewInt(quorum))
			voted := new(big.Int).Mul(back, big.NewInt(-by))
			voted.Mod(voted, big.NewInt(quorum))
			voted.Add(voted, new(big.Int).Mul(big.NewInt(quorum), big.NewInt(1<<28)))
			active := new(big.Int).Mul(voted, big.NewInt(rate))
			active.Add(active, big.NewInt(by))
			active, rest := active.DivMod(active, big.NewInt(quorum), new(big.Int))
			if rest.Sign() != 0 || !active.IsUint64() || !voted.IsUint64() || voted.BitLen() < 56 {
				t.Fatal(quorum, voted, active, rest)
			}
			x := ballot.Tally{Yes: voted.Uint64(), Active: active.Uint64()}
			passed(t, int(quorum), x, by <= 0)
			passed(t, int(quorum), ballot.Tally{Yes: x.Yes - 7, No: 7, Active: x.Active}, by <= 0)
		}
	}
}

// P22.2: each Quorum, of nobody active, of one and of the most.
func TestPassesEnds(t *testing.T) {
	for _, quorum := range quorums() {
		for _, active := range amounts() {
			passed(t, quorum, ballot.Tally{Active: active}, false)
			for _, n := range amounts() {
				passed(t, quorum, ballot.Tally{Yes: n, No: n, Active: active}, false)
				passing(t, quorum, ballot.Tally{Yes: n, Active: active})
				if n < top {
					passed(t, quorum, ballot.Tally{Yes: n, No: n + 1, Active: active}, false)
					passing(t, quorum, ballot.Tally{Yes: n + 1, No: n, Active: active})
				}
				passed(t, quorum, ballot.Tally{Yes: n, Active: 0}, false)
				passed(t, quorum, ballot.Tally{No: n, Active: active}, false)
			}
			if quorum < 0 {
				passed(t, quorum, ballot.Tally{Yes: top, Active: active}, false)
			}
		}
	}
	passed(t, 0, ballot.Tally{Yes: 1, Active: 1}, true)
	passed(t, 0, ballot.Tally{Yes: 1, Active: top}, true)
	passed(t, 0, ballot.Tally{Yes: 1}, false)
	passed(t, -1, ballot.Tally{Yes: 1, Active: 1}, false)
	passed(t, math.MinInt, ballot.Tally{Yes: top, Active: 1}, false)
	passed(t, 1, ballot.Tally{Yes: 1, Active: top}, false)
	passed(t, 1, ballot.Tally{Yes: 1, Active: 1}, true)
	passed(t, math.MaxInt, ballot.Tally{Yes: top, Active: top}, false)
	passed(t, math.MaxInt, ballot.Tally{Yes: top, Active: 1}, true)
	passed(t, math.MaxInt, ballot.Tally{Yes: 922337203685477, Active: 1}, false)
	passed(t, math.MaxInt, ballot.Tally{Yes: 922337203685478, Active: 1}, true)
	passed(t, math.MaxInt, ballot.Tally{Yes: top, Active: 2 * rate}, true)
	passed(t, math.MaxInt, ballot.Tally{Yes: top, Active: 2*rate + 1}, false)
}

// P22.2: as many for it as against it don't pass, and one more does.
func TestPassesSides(t *testing.T) {
	for _, n := range []uint64{0, 1, 2, 9, 1 << 32, 1<<62 - 1, 1 << 62, 1<<63 - 2} {
		for _, quorum := range []int{0, 1, 5000, rate} {
			passed(t, quorum, ballot.Tally{Yes: n, No: n + 1, Active: 1}, false)
			passed(t, quorum, ballot.Tally{Yes: n, No: n, Active: 1}, false)
			passed(t, quorum, ballot.Tally{Yes: n + 1, No: n, Active: 1}, true)
		}
	}
	passed(t, 0, ballot.Tally{Yes: 0, No: 1, Active: 1}, false)
	passed(t, 0, ballot.Tally{Yes: 0, No: 0, Active: 1}, false)
	passed(t, 0, ballot.Tally{Yes: 1, No: 0, Active: 1}, true)
}

// P22.2: nothing passes of which both sides together are above 2^64 - 1.
func TestPassesOver(t *testing.T) {
	for _, no := range []uint64{0, 1, 2, 1 << 32, 1 << 62, 1<<63 - 2, 1<<63 - 1} {
		for _, active := range []uint64{1, 2, 1 << 63, top} {
			for _, quorum := range []int{0, 1, 5000, rate} {
				passed(t, quorum, ballot.Tally{Yes: top - no, No: no, Active: active}, true)
				if no > 0 {
					passed(t, quorum, ballot.Tally{Yes: top - no + 1, No: no, Active: active}, false)
					passed(t, quorum, ballot.Tally{Yes: top, No: no, Active: active}, false)
				}
			}
		}
	}
	passed(t, 0, ballot.Tally{Yes: top, No: top - 1, Active: 1}, false)
	passed(t, 0, ballot.Tally{Yes: 1<<63 + 1, No: 1<<63 - 1, Active: top}, false)
	passed(t, 0, ballot.Tally{Yes: top, No: 1, Active: top}, false)
	passed(t, 3000, ballot.Tally{Yes: top, No: 1 << 63, Active: 1}, false)
}

// P22.2: sides above what is active are reckoned as others are.
func TestPassesMoreThanActive(t *testing.T) {
	passed(t, rate, ballot.Tally{Yes: 300, No: 200, Active: 100}, true)
	passed(t, 5*rate, ballot.Tally{Yes: 300, No: 200, Active: 100}, true)
	passed(t, 5*rate+1, ballot.Tally{Yes: 300, No: 200, Active: 100}, false)
	passed(t, 3000, ballot.Tally{Yes: 200, No: 300, Active: 100}, false)
	passed(t, 2*rate, ballot.Tally{Yes: 101, No: 99, Active: 100}, true)
	passed(t, 2*rate, ballot.Tally{Yes: 101, No: 98, Active: 100}, false)
}

// P22.2: of the parameters only Quorum is asked for: they need not be right.
func TestPassesParams(t *testing.T) {
	p := api.Params{
		Inc: 10, MaxEff: 30, Floor: 10, Cap: 40, Up: 10, Down: 5, Bias: 4, Quot: 100, BiasEm: 8, QuotEm: 50, Recover: 2, ScoreCap: 100,
		Rate: 1 << 20, Bond: 1, Delay: 2, Streak: 4, Boost: 100, Absent: 100, Burn: 5000, Churn: 2, Wait: 2, Poll: 2, Enact: 1, Quorum: 3000,
	}
	if param.Check(p) != api.OK {
		t.Fatal(p)
	}
	wrong := p
	wrong.Inc, wrong.Delay, wrong.Poll = 0, -1, math.MinInt
	for _, q := range []api.Params{p, wrong, {Quorum: 3000}} {
		for voted := range uint64(40) {
			if x := (ballot.Tally{Yes: voted, Active: 100}); ballot.Passes(q, x) != (voted >= 30) {
				t.Fatal(q, x)
			}
		}
	}
}

// P22.3: who doesn't count has no weight, with any vote, wherever it stands.
func TestNoWeight(t *testing.T) {
	for _, status := range idle() {
		for place := range 4 {
			for _, eff := range []uint64{1, 1 << 63, top} {
				members := slices.Insert(active(20, 30, 7), place, one(status, eff))
				for votes := range 1 << 4 {
					yes, no := []byte{byte(votes)}, []byte{byte(^votes)}
					x, e := ballot.Count(members, yes, no)
					if e != api.OK || x.Active != 57 || x.Yes+x.No != 57 {
						t.Fatal(members, yes, x, e)
					}
					other, _ := ballot.Count(members, turned(voting(1, place)), voting(1, place))
					if want := (ballot.Tally{Yes: 57, Active: 57}); other != want {
						t.Fatal(members, other)
					}
					for _, bit := range []byte{0, 1} { // the vote of who doesn't count is turned
						again := []byte{yes[0]&^(1<<place) | bit<<place}
						if n, e := ballot.Weigh(members, again); n != x.Yes || e != api.OK {
							t.Fatal(members, again, n, e)
						}
					}
					held(t, members, yes, no)
				}
			}
		}
	}
}

// P22.3: what passes with some votes passes with one yes more, up to the most that there may be.
func TestOneMore(t *testing.T) {
	for _, quorum := range quorums() {
		for _, active := range []uint64{1, 2, 9, 100, rate, 1<<63 - 1, 1 << 63, top} {
			for _, no := range []uint64{0, 1, 7, 15, 1<<62 - 20, 1<<63 - 2, 1<<63 - 1} {
				for _, yes := range []uint64{0, 1, no, no + 1, active / 2, active / 10000 * 3000, top - no - min(top-no, 20)} {
					was := false
					for range 60 {
						now := passing(t, quorum, ballot.Tally{Yes: yes, No: no, Active: active})
						if was && !now {
							t.Fatal(quorum, yes, no, active)
						}
						was = now
						if yes == top-no { // There is no more.
							break
						}
						yes++
					}
				}
			}
		}
	}
}

// P22.3: as active stake shrinks, what is needed shrinks with it: what passes goes on to pass, down to an Active of 1.
func TestShrinks(t *testing.T) {
	for _, quorum := range quorums() {
		for _, n := range amounts() {
			for _, x := range []ballot.Tally{{Yes: n}, {Yes: n, No: 3}, {Yes: n, No: n / 2}, {Yes: n, No: n - min(n, 1)}} {
				was := false
				for x.Active = top; x.Active > 0; x.Active /= 2 {
					now := passing(t, quorum, x)
					if was && !now {
						t.Fatal(quorum, x)
					}
					was = now
				}
				passed(t, quorum, x, false) // Of nobody nothing passes.
			}
		}
	}
}

// P22.3: as Active grows by one and one, what passed needs more than it has just from one number on.
func TestGrows(t *testing.T) {
	for _, quorum := range []int{1, 2, 3, 2999, 3000, 3333, 5000, 9999, rate, rate + 1} {
		for _, voted := range []uint64{1, 2, 3, 29, 30, 31} {
			most := voted * rate / uint64(quorum)
			for active := max(most, 40) - 40; active < most+40; active++ {
				passed(t, quorum, ballot.Tally{Yes: voted, Active: active}, active > 0 && active <= most)
			}
		}
	}
}

// P22.1 and P22.3: the members of a list are counted as their statuses change, and what is needed with them.
func TestLess(t *testing.T) {
	members := active(40, 10, 10, 10, 10, 10, 10)
	yes, p := voting(1, 1, 2, 3), api.Params{Quorum: 5000}
	for i, want := range []bool{false, true, true, true} {
		x, e := ballot.Count(members, yes, nil)
		if e != api.OK || ballot.Passes(p, x) != want {
			t.Fatal(i, x, e)
		}
		members[[]int{0, 4, 5, 6}[i]].Status = api.StatusOut
	}
}

// P22.1 to P22.3: mixed members, votes and tallies, held against the chapter's words.
func TestMixed(t *testing.T) {
	dice := rand.New(rand.NewSource(22))
	kinds := append(statuses(), api.StatusActive, api.StatusActive, api.StatusLeaving, 0, 6, -1)
	some := func() uint64 {
		return dice.Uint64() >> (dice.Intn(64))
	}
	votes := func() []byte {
		b := make([]byte, dice.Intn(6))
		dice.Read(b)
		return b
	}
	for range 20000 {
		members := make([]api.Member, dice.Intn(40))
		shift := dice.Intn(64)
		for i := range members {
			members[i] = one(kinds[dice.Intn(len(kinds))], dice.Uint64()>>shift)
			members[i].Balance = some()
		}
		yes, no := votes(), votes()
		held(t, members, yes, no)
		x, _ := ballot.Count(members, yes, no)
		passing(t, dice.Intn(rate+2), x)
	}
	for range 50000 {
		x := ballot.Tally{Yes: some(), No: some(), Active: some()}
		if dice.Intn(2) > 0 {
			x.No = x.Yes - min(x.Yes, some())
		}
		quorum := int(some())
		if dice.Intn(4) > 0 {
			quorum = dice.Intn(rate + 2)
		}
		passing(t, quorum, x)
	}
}

// The chapter's example.
func TestExamples(t *testing.T) {
	p := api.Params{Quorum: 3000}
	if !ballot.Passes(p, ballot.Tally{Yes: 20, No: 10, Active: 100}) {
		t.Error("20 for it and 10 against it")
	}
	if ballot.Passes(p, ballot.Tally{Yes: 20, No: 9, Active: 100}) {
		t.Error("20 for it and 9 against it")
	}
}
