package roll_test

import (
	"bytes"
	"math"
	"math/big"
	"math/rand"
	"slices"
	"testing"

	"bullion/api"
	"bullion/bits"
	"bullion/roll"
)

// size is how many bytes marks have: MaxMembers bits, eight of them each.
const size = 16

// ones are so many bytes of which all bits are 1.
func ones(n int) []byte { return bytes.Repeat([]byte{0xff}, n) }

// marking are marks in which the bits at these places are 1.
func marking(places ...int) []byte {
	b := make([]byte, size)
	for _, i := range places {
		b[i/8] |= 1 << (i % 8)
	}
	return b
}

// strays are lists of bytes that aren't marks: none, and too few or too many.
func strays() [][]byte {
	list := [][]byte{nil, {}}
	for _, n := range []int{1, 2, size - 2, size - 1, size + 1, size + 2, 2*size - 1, 2 * size, 1 << 10} {
		list = append(list, make([]byte, n), ones(n))
	}
	return list
}

// numbers are those of members, and others, at which something changes.
func numbers() []int {
	return []int{
		math.MinInt, math.MinInt + 1, -1 << 32, -128, -8, -2, -1, 0, 1, 2, 6, 7, 8, 9, 15, 16, 17, 63, 64, 65,
		api.MaxMembers - 9, api.MaxMembers - 8, api.MaxMembers - 7, api.MaxMembers - 1, api.MaxMembers, api.MaxMembers + 1,
		api.MaxMembers + 7, api.MaxMembers + 8, api.MaxBits - 1, api.MaxBits, api.MaxBits + 1, 1 << 32, 1<<32 + 1, math.MaxInt - 7, math.MaxInt - 1, math.MaxInt,
	}
}

// worth is what bytes are worth together, the first one least.
func worth(b []byte) *big.Int {
	b = slices.Clone(b)
	slices.Reverse(b)
	return new(big.Int).SetBytes(b)
}

// field says whether bytes are a field of n bits, by the chapter's words over whole numbers.
func field(b []byte, n int) bool {
	return n >= 0 && n <= 256 && len(b) == (n+7)/8 && worth(b).BitLen() <= n
}

// markOf is marks with more of them, likewise.
func markOf(marks, b []byte, members int) ([]byte, api.Errno) {
	if !field(marks, 128) || members < 0 || members > 128 || !field(b, members) {
		return nil, api.ErrBits
	}
	both := new(big.Int).Or(worth(marks), worth(b)).FillBytes(make([]byte, size))
	slices.Reverse(both)
	return both, api.OK
}

// checkOf says whether all are marks, likewise.
func checkOf(ring [][]byte, marks []byte) api.Errno {
	for _, b := range ring {
		if !field(b, 128) {
			return api.ErrBits
		}
	}
	if !field(marks, 128) || len(ring) > 8 {
		return api.ErrBits
	}
	return api.OK
}

// runOf counts a member's epochs, likewise.
func runOf(ring [][]byte, member int) int {
	n := 0
	for n < len(ring) && member >= 0 && worth(ring[n]).Bit(member) == 1 {
		n++
	}
	return n
}

// roomy is bytes with spare room on both sides, and all the memory in which they stand.
func roomy(b []byte) (inner, memory []byte) {
	memory = slices.Concat(ones(3), b, ones(40))
	return memory[3 : 3+len(b)], memory
}

// rings is a ring with spare room on both sides, with marks in it that aren't its own, and such bytes as its epochs.
type rings struct {
	inner, all [][]byte
	memories   [][]byte
	wasLists   [][]byte
	wasBytes   [][]byte
}

func roomyRing(ring [][]byte) rings {
	r := rings{}
	for _, b := range slices.Concat([][]byte{ones(size)}, ring, [][]byte{ones(size), ones(size), nil, ones(3)}) {
		inner, memory := roomy(b)
		r.all, r.memories = append(r.all, inner), append(r.memories, memory)
	}
	r.inner = r.all[1 : 1+len(ring)]
	r.wasLists, r.wasBytes = slices.Clone(r.all), copied(r.memories)
	return r
}

// stays asks that the ring is as it was: its epochs are the same lists, and have the same bytes, in spare room too.
func (r rings) stays(t *testing.T) {
	t.Helper()
	for i, b := range r.all {
		if !same(b, r.wasLists[i]) || !bytes.Equal(r.memories[i], r.wasBytes[i]) {
			t.Fatalf("the ring was %v, and is %v", r.wasBytes, r.memories)
		}
	}
}

// same says whether two lists are one, in one memory.
func same(a, b []byte) bool {
	return len(a) == len(b) && cap(a) == cap(b) && (len(a) == 0 || &a[0] == &b[0])
}

// copied is a list of lists with memory of its own.
func copied(list [][]byte) [][]byte {
	var all [][]byte
	for _, b := range list {
		all = append(all, slices.Clone(b))
	}
	return all
}

// alike says whether two lists hold the same bytes; nil is as empty.
func alike(a, b [][]byte) bool { return slices.EqualFunc(a, b, bytes.Equal) }

// overwrite writes over a list that was handed out, and over its spare room.
func overwrite(b []byte) {
	b = b[:cap(b)]
	for i := range b {
		b[i] ^= 0xa5
	}
}

// marked asks for marks and more of them, and that what was handed in stays; also when the answer is written over.
func marked(t *testing.T, marks, more []byte, members int, want []byte, wantE api.Errno) {
	t.Helper()
	innerMarks, allMarks := roomy(marks)
	innerField, allField := roomy(more)
	wasMarks, wasField := slices.Clone(allMarks), slices.Clone(allField)
	got, e := roll.Mark(innerMarks, innerField, members)
	if !bytes.Equal(got, want) || e != wantE || e != api.OK && got != nil {
		t.Fatalf("Mark(%v, %v, %d): %v, %d, want %v, %d", marks, more, members, got, e, want, wantE)
	}
	overwrite(got)
	if !bytes.Equal(allMarks, wasMarks) || !bytes.Equal(allField, wasField) {
		t.Fatalf("%v, %v are now %v, %v", wasMarks, wasField, allMarks, allField)
	}
	if again, _ := roll.Mark(innerMarks, innerField, members); !bytes.Equal(again, want) {
		t.Fatalf("Mark(%v, %v, %d): %v once more, want %v", marks, more, members, again, want)
	}
}

// heldMark asks it by the chapter's words.
func heldMark(t *testing.T, marks, more []byte, members int) {
	t.Helper()
	want, e := markOf(marks, more, members)
	marked(t, marks, more, members, want, e)
}

// turned asks for a ring with one epoch more, and that what was handed in stays; also when the answer is written over.
func turned(t *testing.T, ring [][]byte, marks []byte, want [][]byte) {
	t.Helper()
	r := roomyRing(ring)
	inner, memory := roomy(marks)
	was := slices.Clone(memory)
	got := roll.Turn(r.inner, inner)
	if !alike(got, want) {
		t.Fatalf("Turn(%v, %v): %v, want %v", ring, marks, got, want)
	}
	apart(t, got)
	r.stays(t)
	if !bytes.Equal(memory, was) {
		t.Fatalf("%v is now %v", was, memory)
	}
	if again := roll.Turn(r.inner, inner); !alike(again, want) {
		t.Fatalf("Turn(%v, %v): %v once more, want %v", ring, marks, again, want)
	}
}

// apart writes over each epoch of a ring that was handed out, and over the ring's room, and asks that the other epochs stay.
func apart(t *testing.T, ring [][]byte) {
	t.Helper()
	for i, b := range ring {
		was := copied(ring)
		overwrite(b)
		was[i] = b
		if !alike(ring, was) {
			t.Fatalf("%v is now %v", was, ring)
		}
	}
	all := ring[:cap(ring)]
	for i := range all {
		all[i] = ones(2)
	}
}

// checked asks whether all are marks, and that what was handed in stays.
func checked(t *testing.T, ring [][]byte, marks []byte, want api.Errno) {
	t.Helper()
	r := roomyRing(ring)
	inner, memory := roomy(marks)
	was := slices.Clone(memory)
	if e := roll.Check(r.inner, inner); e != want || checkOf(ring, marks) != want {
		t.Fatalf("Check(%v, %v): %d, want %d", ring, marks, e, want)
	}
	r.stays(t)
	if !bytes.Equal(memory, was) {
		t.Fatalf("%v is now %v", was, memory)
	}
}

// ran asks for a member's run, and that what was handed in stays.
func ran(t *testing.T, ring [][]byte, member, want int) {
	t.Helper()
	r := roomyRing(ring)
	if got := roll.Run(r.inner, member); got != want {
		t.Fatalf("Run(%v, %d): %d, want %d", ring, member, got, want)
	}
	r.stays(t)
}

// many are so many epochs, of which each one has a mark of its own.
func many(n int) [][]byte {
	ring := make([][]byte, n)
	for i := range ring {
		ring[i] = marking(i % 128)
	}
	return ring
}

// P20.1: Empty is marks of MaxMembers bits, all 0, and each call's are its own.
func TestEmpty(t *testing.T) {
	b := roll.Empty()
	if len(b) != size || bits.Check(b, api.MaxMembers) != api.OK || bits.Count(b) != 0 {
		t.Fatal(b)
	}
	other := roll.Empty()
	overwrite(b)
	for _, got := range [][]byte{other, roll.Empty()} {
		if !bytes.Equal(got, make([]byte, size)) {
			t.Fatal(got)
		}
	}
	checked(t, nil, roll.Empty(), api.OK)
}

// P20.1: each bit is 1 that is in marks or in the field, and no other one.
func TestMark(t *testing.T) {
	for _, x := range []struct {
		marks, more []byte
		members     int
		want        []byte
	}{
		{marking(), nil, 0, marking()}, {marking(), []byte{}, 0, marking()}, {marking(0, 127), nil, 0, marking(0, 127)}, {ones(16), nil, 0, ones(16)},
		{marking(), []byte{0}, 1, marking()}, {marking(), []byte{1}, 1, marking(0)}, {marking(0), []byte{0}, 1, marking(0)}, {marking(0), []byte{1}, 1, marking(0)},
		{marking(1), []byte{1}, 1, marking(0, 1)}, {marking(127), []byte{1}, 1, marking(0, 127)}, {marking(8), []byte{1}, 1, marking(0, 8)},
		{marking(), []byte{5}, 3, marking(0, 2)}, {marking(1), []byte{5}, 3, marking(0, 1, 2)}, {marking(0, 1), []byte{6}, 3, marking(0, 1, 2)}, {marking(0, 2), []byte{4}, 3, marking(0, 2)},
		{marking(), []byte{127}, 7, marking(0, 1, 2, 3, 4, 5, 6)}, {marking(7), []byte{64}, 7, marking(6, 7)}, {marking(6), []byte{0}, 7, marking(6)},
		{marking(), []byte{128}, 8, marking(7)}, {marking(8), []byte{255}, 8, marking(0, 1, 2, 3, 4, 5, 6, 7, 8)}, {marking(3), []byte{1}, 8, marking(0, 3)},
		{marking(), []byte{0, 1}, 9, marking(8)}, {marking(0), []byte{128, 1}, 9, marking(0, 7, 8)}, {marking(9), []byte{0, 0}, 9, marking(9)}, {marking(16), []byte{1, 1}, 9, marking(0, 8, 16)},
		{marking(), marking(126), 127, marking(126)}, {marking(127), marking(0, 126), 127, marking(0, 126, 127)}, {marking(5), marking(), 127, marking(5)},
		{marking(), marking(127), 128, marking(127)}, {marking(127), marking(127), 128, marking(127)}, {marking(0, 64), marking(64, 100), 128, marking(0, 64, 100)},
		{marking(), ones(16), 128, ones(16)}, {ones(16), marking(), 128, ones(16)}, {ones(16), ones(16), 128, ones(16)}, {marking(), marking(), 128, marking()},
		{ones(16), []byte{0}, 5, ones(16)}, {ones(16), []byte{31}, 5, ones(16)},
	} {
		marked(t, x.marks, x.more, x.members, x.want, api.OK)
		heldMark(t, x.marks, x.more, x.members)
	}
}

// P20.1: what isn't marks is refused, whatever the field is.
func TestMarkStrayMarks(t *testing.T) {
	for _, b := range strays() {
		for _, members := range numbers() {
			marked(t, b, nil, members, nil, api.ErrBits)
			marked(t, b, []byte{1}, members, nil, api.ErrBits)
			marked(t, b, make([]byte, size), members, nil, api.ErrBits)
			marked(t, b, b, members, nil, api.ErrBits)
		}
	}
}

// P20.1: members are from 0 to MaxMembers, whatever the field is, also one of so many bits.
func TestMarkMembers(t *testing.T) {
	for _, members := range numbers() {
		fits := members >= 0 && members <= 128
		for _, n := range []int{0, 1, 2, 15, 16, 17, 31, 32, 33} {
			if fits && n == (members+7)/8 {
				marked(t, marking(3), make([]byte, n), members, marking(3), api.OK)
			} else {
				marked(t, marking(3), make([]byte, n), members, nil, api.ErrBits)
			}
			heldMark(t, marking(3), ones(n), members)
		}
	}
	for members := 129; members <= 256; members++ {
		b, e := bits.Pack(make([]bool, members))
		if e != api.OK {
			t.Fatal(members, e)
		}
		marked(t, marking(), b, members, nil, api.ErrBits)
	}
}

// P20.1: a field of each number of members, one byte too short, one too long, with all bits 1 and with one behind the last member.
func TestMarkField(t *testing.T) {
	for members := 0; members <= 128; members++ {
		n := (members + 7) / 8
		full := make([]byte, n)
		for i := range members {
			full[i/8] |= 1 << (i % 8)
		}
		want := append(slices.Clone(full), make([]byte, size-n)...)
		marked(t, marking(), full, members, want, api.OK)
		marked(t, marking(), make([]byte, n), members, marking(), api.OK)
		marked(t, ones(size), full, members, ones(size), api.OK)
		marked(t, marking(), append(slices.Clone(full), 0), members, nil, api.ErrBits)
		marked(t, marking(), append(slices.Clone(full), 255), members, nil, api.ErrBits)
		if n > 0 {
			marked(t, marking(), full[:n-1], members, nil, api.ErrBits)
			marked(t, marking(), nil, members, nil, api.ErrBits)
			marked(t, marking(), []byte{}, members, nil, api.ErrBits)
		}
		for i := members; i < 8*n; i++ {
			odd := make([]byte, n)
			odd[i/8] = 1 << (i % 8)
			marked(t, marking(), odd, members, nil, api.ErrBits)
			marked(t, marking(i), odd, members, nil, api.ErrBits)
			marked(t, marking(i), full, members, markWith(want, i), api.OK)
		}
	}
}

// markWith is marks with one bit more.
func markWith(marks []byte, i int) []byte {
	b := slices.Clone(marks)
	b[i/8] |= 1 << (i % 8)
	return b
}

// P20.1: each place by each other one.
func TestMarkPlaces(t *testing.T) {
	for i := range 128 {
		for j := range 128 {
			marked(t, marking(i), marking(j), 128, marking(i, j), api.OK)
			if j < 9 {
				marked(t, marking(i), marking(j)[:2], 9, marking(i, j), api.OK)
			}
		}
	}
}

// P20.1: the two lists may be one.
func TestMarkItself(t *testing.T) {
	b := marking(1, 77)
	got, e := roll.Mark(b, b, 128)
	overwrite(got)
	if e != api.OK || !bytes.Equal(b, marking(1, 77)) {
		t.Fatal(b, e)
	}
	got, e = roll.Mark(b, b[:1], 8)
	if e != api.OK || !bytes.Equal(got, b) {
		t.Fatal(got, e)
	}
}

// P20.2: marks ahead of the ring's, in their order, and the last ones are left out.
func TestTurn(t *testing.T) {
	for _, n := range []int{0, 1, 2, 3, 6, 7, 8, 9, 10, 15, 16, 17, 100, 1000} {
		ring := many(n)
		kept := ring[:min(n, 7)]
		for _, marks := range append(strays(), marking(), marking(9), ones(size)) {
			turned(t, ring, marks, append([][]byte{marks}, kept...))
		}
	}
	for _, ring := range [][][]byte{nil, {}} {
		turned(t, ring, marking(5), [][]byte{marking(5)})
		turned(t, ring, nil, [][]byte{nil})
	}
	a, b, c := marking(1), marking(2), marking(3)
	turned(t, [][]byte{a}, b, [][]byte{b, a})
	turned(t, [][]byte{b, a}, c, [][]byte{c, b, a})
	turned(t, [][]byte{a, a, a, a, a, a, b}, c, [][]byte{c, a, a, a, a, a, a, b})
	turned(t, [][]byte{a, a, a, a, a, a, a, b}, c, [][]byte{c, a, a, a, a, a, a, a})
}

// P20.2: a ring that holds what isn't marks is turned as any other one.
func TestTurnStrays(t *testing.T) {
	list := strays()
	for i := range list {
		for n := range len(list) - i {
			ring := list[i : i+n]
			turned(t, ring, marking(4), append([][]byte{marking(4)}, ring[:min(n, 7)]...))
		}
	}
	turned(t, [][]byte{nil, nil}, nil, [][]byte{nil, nil, nil})
	turned(t, make([][]byte, 20), []byte{}, make([][]byte, 8))
}

// P20.2: marks and epochs that are one list are lists of their own in what is handed out.
func TestTurnItself(t *testing.T) {
	b := marking(1)
	got := roll.Turn([][]byte{b, b}, b)
	apart(t, got)
	if !bytes.Equal(b, marking(1)) {
		t.Fatal(b)
	}
}

// P20.2: marks and at most MaxRing epochs of marks.
func TestCheck(t *testing.T) {
	for _, n := range []int{0, 1, 2, 7, 8, 9, 10, 16, 17, 100} {
		want := api.OK
		if n > 8 {
			want = api.ErrBits
		}
		for _, marks := range [][]byte{marking(), marking(0), marking(127), ones(size)} {
			checked(t, many(n), marks, want)
			checked(t, slices.Repeat([][]byte{marks}, n), marks, want)
		}
	}
	checked(t, [][]byte{}, marking(), api.OK)
	checked(t, make([][]byte, 9), marking(), api.ErrBits)
}

// P20.2: what isn't marks, as marks and at each place of the ring.
func TestCheckStrays(t *testing.T) {
	for _, b := range strays() {
		for _, n := range []int{0, 1, 2, 7, 8, 9} {
			checked(t, many(n), b, api.ErrBits)
			for i := range n {
				ring := many(n)
				ring[i] = b
				checked(t, ring, marking(1), api.ErrBits)
				checked(t, ring, b, api.ErrBits)
			}
		}
	}
}

// P20.3: epochs from the last one on without a gap, wherever the gap is.
func TestRun(t *testing.T) {
	yes, no := marking(0, 5, 127), marking(1, 4, 6, 126)
	for _, member := range []int{0, 5, 127} {
		for n := range 20 {
			ran(t, slices.Repeat([][]byte{yes}, n), member, n)
			ran(t, slices.Repeat([][]byte{no}, n), member, 0)
			ran(t, slices.Repeat([][]byte{ones(size)}, n), member, n)
			for gap := range n {
				ring := slices.Repeat([][]byte{yes}, n)
				ring[gap] = no
				ran(t, ring, member, gap)
				ran(t, ring, member-1, runOf(ring, member-1))
			}
		}
	}
	ran(t, nil, 0, 0)
	ran(t, [][]byte{}, 0, 0)
	ran(t, [][]byte{yes, yes, no, yes, yes, yes}, 0, 2)
	ran(t, [][]byte{no, yes, yes}, 0, 0)
	ran(t, [][]byte{yes, no, no, yes}, 0, 1)
	ran(t, slices.Repeat([][]byte{yes}, 5000), 0, 5000)
}

// P20.3: a member of any number, also one that there can't be.
func TestRunMembers(t *testing.T) {
	for _, member := range numbers() {
		want := 0
		if member >= 0 && member < 128 {
			want = 4
		}
		ran(t, slices.Repeat([][]byte{ones(size)}, 4), member, want)
		ran(t, slices.Repeat([][]byte{make([]byte, size)}, 4), member, 0)
		ran(t, nil, member, 0)
		ran(t, [][]byte{nil, {}, nil}, member, 0)
	}
	for member := range 128 {
		ran(t, [][]byte{marking(member), marking(member), marking((member + 1) % 128)}, member, 2)
	}
}

// P20.3: epochs with too few bytes for the member are a gap, and those with more are asked for the byte.
func TestRunStrays(t *testing.T) {
	for _, n := range []int{0, 1, 2, 15, 17, 32, 33} {
		for _, member := range []int{0, 7, 8, 15, 16, 119, 120, 127, 128, 135, 136, 255, 256, 263, 264} {
			ring := [][]byte{ones(40), ones(n), ones(40)}
			want := 1
			if member < 8*n {
				want = 3
			}
			ran(t, ring, member, want)
			ran(t, ring[1:], member, max(want-1, 0))
		}
	}
	ran(t, [][]byte{marking(0), nil, marking(0)}, 0, 1)
	ran(t, [][]byte{marking(0), {}, marking(0)}, 0, 1)
	ran(t, [][]byte{{1}, {1, 0, 0}, marking(0), {2}}, 0, 3)
	ran(t, [][]byte{{1}, {1}}, 8, 0)
}

// P20.4: who is marked stays marked, behind any further marks; and nobody is marked whom no field has.
func TestStayMarked(t *testing.T) {
	dice := rand.New(rand.NewSource(20))
	for range 300 {
		marks, all := roll.Empty(), new(big.Int)
		for range 20 {
			members := dice.Intn(129)
			list := make([]bool, members)
			for i := range list {
				list[i] = dice.Intn(6) == 0
			}
			more, _ := bits.Pack(list)
			was := marks
			heldMark(t, marks, more, members)
			var e api.Errno
			if marks, e = roll.Mark(marks, more, members); e != api.OK {
				t.Fatal(e)
			}
			all.Or(all, worth(more))
			if new(big.Int).And(worth(was), worth(marks)).Cmp(worth(was)) != 0 || worth(marks).Cmp(all) != 0 {
				t.Fatalf("%v, then %v: %v, want %v", was, more, worth(marks), all)
			}
			// What is refused leaves the marks.
			if _, e := roll.Mark(marks, ones(3), members%17); e != api.ErrBits || worth(marks).Cmp(all) != 0 {
				t.Fatal(e, marks)
			}
		}
	}
}

// P20.2 to P20.4: a ring that is turned again and again holds the last epochs, and older rings stay.
func TestTurnAgain(t *testing.T) {
	dice := rand.New(rand.NewSource(21))
	for range 50 {
		var ring, days [][]byte
		for range 30 {
			marks := make([]byte, size)
			dice.Read(marks)
			marks[0] |= byte(1 & (len(days) / 11)) // the member 0 is there, but not in each epoch
			turned(t, ring, marks, append([][]byte{marks}, ring[:min(len(ring), 7)]...))
			was, now := ring, copied(ring)
			ring = roll.Turn(ring, marks)
			days = append([][]byte{slices.Clone(marks)}, days...)
			if !alike(ring, days[:min(len(days), 8)]) || !alike(was, now) {
				t.Fatalf("%v of %v", ring, days)
			}
			overwrite(marks) // The ring has marks of its own.
			checked(t, ring, roll.Empty(), api.OK)
			for _, member := range []int{-1, 0, 1, 7, 8, 64, 127, 128} {
				ran(t, ring, member, runOf(ring, member))
			}
		}
	}
}

// P20.1 to P20.3: mixed bytes, held against the chapter's words.
func TestMixed(t *testing.T) {
	dice := rand.New(rand.NewSource(22))
	some := func() []byte {
		b := make([]byte, []int{0, 1, 8, 15, 16, 16, 16, 16, 16, 16, 17}[dice.Intn(11)])
		dice.Read(b)
		for range dice.Intn(3) {
			for i := range b {
				b[i] |= byte(dice.Uint32())
			}
		}
		return b
	}
	for range 20000 {
		members := dice.Intn(140) - 5
		more := make([]byte, max(0, (members+7)/8+dice.Intn(8)/7))
		dice.Read(more)
		if len(more) > 0 && dice.Intn(4) > 0 {
			more[len(more)-1] &= 1<<((members+7)%8+1) - 1
		}
		marks := some()
		heldMark(t, marks, more, members)
		ring := make([][]byte, dice.Intn(11))
		for i := range ring {
			ring[i] = some()
		}
		checked(t, ring, marks, checkOf(ring, marks))
		member := dice.Intn(140) - 5
		ran(t, ring, member, runOf(ring, member))
	}
}

// The chapter's example.
func TestExamples(t *testing.T) {
	if n := roll.Run([][]byte{{1}, {1}, {0}, {1}}, 0); n != 2 {
		t.Error(n)
	}
}
