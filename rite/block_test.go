package rite_test

import (
	"reflect"
	"slices"
	"testing"

	"bullion/api"
	"bullion/block"
	"bullion/rite"
	"bullion/state"
)

// packed are the bytes of a block of deeds.
func packed(t *testing.T, deeds ...api.Deed) []byte {
	t.Helper()
	b, at, e := block.Encode(deeds)
	if e != api.OK {
		t.Fatalf("%d of %+v", e, deeds[at])
	}
	return b
}

// stops asks for a block that is refused, with this error and its place.
func stops(t *testing.T, s api.State, b []byte, at int, e api.Errno) {
	t.Helper()
	if got := blocks(t, s, b); got.e != e || got.at != at {
		t.Fatalf("%v: %d at %d, want %d at %d", b, got.e, got.at, e, at)
	}
}

// goes asks for a block that is done, and for what is behind it.
func goes(t *testing.T, s api.State, deeds ...api.Deed) api.State {
	t.Helper()
	got := blocks(t, s, packed(t, deeds...))
	if got.e != api.OK || got.at != 0 {
		t.Fatalf("%+v: %d at %d", deeds, got.e, got.at)
	}
	return got.s
}

// line is a block that is done to a full state, of all kinds of deeds.
func line() []api.Deed {
	return append(deeds(), vote(1, 1, 2, true), vote(0, 5, 3, false), send(2, 0, 20), leave(0, 0))
}

// P25.2: of what doesn't fit nothing is done, whatever the bytes are, and the place is 0.
func TestBlockState(t *testing.T) {
	for _, s := range unfit() {
		for _, b := range [][]byte{nil, {}, {0}, {1}, {65}, {0, 1}, {2, 4, 0, 0, 9}, packed(t, line()...), make([]byte, api.MaxBytes+1)} {
			stops(t, s, b, 0, api.ErrState)
		}
	}
}

// P25.2: bytes that are no block are refused, with the place that layer 9 tells.
func TestBlockBytes(t *testing.T) {
	leaves := packed(t, leave(0, 0), leave(0, 5), stake(2, 30))
	n := len(leaves)
	for _, c := range []struct {
		b  []byte
		at int
		e  api.Errno
	}{
		{nil, 0, api.ErrEnd}, {[]byte{}, 0, api.ErrEnd},
		{make([]byte, api.MaxBytes+1), 0, api.ErrBig},
		{[]byte{65}, 0, api.ErrForm}, {[]byte{128, 0}, 0, api.ErrForm}, {[]byte{128}, 0, api.ErrEnd},
		{[]byte{0, 0}, 0, api.ErrLeft}, {[]byte{1}, 0, api.ErrEnd},
		{[]byte{1, 0}, 0, api.ErrDeed}, {[]byte{1, 8}, 0, api.ErrDeed}, {[]byte{1, 4, 0}, 0, api.ErrEnd},
		{[]byte{1, 1, 0, 1, 0}, 0, api.ErrDeed}, {[]byte{1, 4, 0, 0, 0}, 1, api.ErrLeft}, {[]byte{1, 4, 64, 0}, 0, api.ErrForm},
		{[]byte{2, 4, 0, 0, 9}, 1, api.ErrDeed}, {[]byte{2, 4, 0, 0}, 1, api.ErrEnd},
		{leaves[:n-1], 2, api.ErrEnd}, {slices.Concat(leaves, []byte{0}), 3, api.ErrLeft}, {leaves[:4], 1, api.ErrEnd}, {leaves[:1], 0, api.ErrEnd},
	} {
		_, at, e := block.Decode(c.b)
		if at != c.at || e != c.e {
			t.Fatalf("layer 9 of %v: %d at %d", c.b, e, at)
		}
		stops(t, full(), c.b, c.at, c.e)
		stops(t, people(), c.b, c.at, c.e)
	}
}

// P25.2: a block is refused as a whole by its bytes wherever they are wrong: each that is cut off, or has something behind it.
func TestBlockCut(t *testing.T) {
	b := packed(t, line()...)
	for n := range len(b) {
		got := blocks(t, full(), b[:n])
		if got.e != api.ErrEnd {
			t.Fatalf("%v: %d", b[:n], got.e)
		}
	}
	stops(t, full(), slices.Concat(b, []byte{0}), len(line()), api.ErrLeft)
}

// P25.2: of no deeds there is the state as it was, in memory of its own.
func TestBlockOfNone(t *testing.T) {
	for _, s := range []api.State{full(), people(), actives(3)} {
		if after := goes(t, s); !alike(after, s) {
			t.Fatalf("%+v", after)
		}
	}
}

// P25.2: a block of one deed does what that one does.
func TestBlockOfOne(t *testing.T) {
	for _, d := range candidates() {
		after, _ := rite.Do(full(), d)
		if !alike(goes(t, full(), d), after) {
			t.Fatalf("%+v", d)
		}
	}
	for _, d := range []api.Deed{send(0, 1, 301), stake(0, 10), more(0, 1, 2), leave(0, 7), mark(12, field(8)), vote(0, 0, 0, true), send(3, 0, 1)} {
		_, e := rite.Do(full(), d)
		stops(t, full(), packed(t, d), 0, e)
		if e == api.OK {
			t.Fatalf("%+v", d)
		}
	}
}

// P25.2: of many deeds each is done to what those ahead left, whatever the order.
func TestBlockOfMany(t *testing.T) {
	list := line()
	want := full()
	for _, d := range list {
		after, e := rite.Do(want, d)
		if e != api.OK {
			t.Fatalf("%+v: %d", d, e)
		}
		want = after
	}
	if !alike(goes(t, full(), list...), want) {
		t.Fatalf("%+v", want)
	}
	most := slices.Repeat([]api.Deed{send(0, 1, 2), send(1, 2, 3), stake(2, 11), mark(11, field(8, 2))}, api.MaxDeeds/4)
	after := goes(t, full(), most...)
	if !slices.Equal(after.Purses, []uint64{268, 84, 72}) || len(after.Pool) != 19 || !slices.Equal(after.Marks, votes(0, 2, 5)) {
		t.Fatalf("%+v", after)
	}
}

// P25.2: a deed that is refused, wherever it stands, lets none be done, and its place is told.
func TestBlockRefused(t *testing.T) {
	for _, c := range []struct {
		d api.Deed
		e api.Errno
	}{
		{send(3, 0, 1), api.ErrAccount}, {send(0, 3, 1), api.ErrAccount}, {send(0, 1, 1000), api.ErrFunds}, {stake(1, 10), api.ErrSmall}, {stake(1, 500), api.ErrFunds},
		{more(0, 8, 1), api.ErrMember}, {more(0, 1, 1), api.ErrOwner}, {more(1, 1, 900), api.ErrFunds}, {leave(1, 1), api.ErrStatus}, {leave(1, 5), api.ErrOwner},
		{mark(10, field(8)), api.ErrEpoch}, {mark(11, nil), api.ErrBits}, {vote(1, 3, 0, true), api.ErrStatus}, {vote(1, 1, 5, true), api.ErrMotion},
		{vote(1, 1, 1, true), api.ErrClosed}, {vote(0, 0, 0, false), api.ErrTwice},
	} {
		for at := range 5 {
			list := []api.Deed{send(0, 1, 5), stake(2, 30), more(1, 3, 7), mark(11, field(8, 1, 6))}
			stops(t, full(), packed(t, slices.Insert(list, at, c.d)...), at, c.e)
		}
		most := slices.Repeat([]api.Deed{mark(11, field(8, 3))}, api.MaxDeeds-1)
		for _, at := range []int{0, 1, 31, 62, 63} {
			stops(t, full(), packed(t, slices.Insert(slices.Clone(most), at, c.d)...), at, c.e)
		}
	}
	rooms := changed(func(s *api.State) { s.Pool, s.Motions = waiting(api.MaxLine), moved(api.MaxMotions, api.MotionOpen) })
	for _, d := range []api.Deed{stake(0, 11), more(0, 0, 1), move(0, api.MoveOn)} {
		stops(t, rooms, packed(t, send(0, 1, 5), d), 1, api.ErrFull)
	}
}

// P25.2: of two that are refused it is the first one.
func TestBlockRefusedTwice(t *testing.T) {
	poor, small := send(1, 0, 1000), stake(0, 3)
	fine := mark(11, field(8, 4))
	for _, c := range []struct {
		list []api.Deed
		at   int
		e    api.Errno
	}{
		{[]api.Deed{poor, small}, 0, api.ErrFunds}, {[]api.Deed{small, poor}, 0, api.ErrSmall},
		{[]api.Deed{fine, poor, fine, small}, 1, api.ErrFunds}, {[]api.Deed{fine, fine, small, poor}, 2, api.ErrSmall}, {[]api.Deed{poor, poor, poor}, 0, api.ErrFunds},
	} {
		stops(t, full(), packed(t, c.list...), c.at, c.e)
	}
}

// P25.2: a deed is refused by what one ahead of it did, and by nothing else.
func TestBlockAheadRefuses(t *testing.T) {
	for _, c := range []struct {
		first, second api.Deed
		e             api.Errno
	}{
		{send(0, 1, 200), send(0, 1, 101), api.ErrFunds},
		{stake(0, 250), stake(0, 51), api.ErrFunds},
		{more(0, 0, 300), move(0, api.MoveOn), api.ErrFunds},
		{move(1, api.MoveOff), send(1, 0, 100), api.ErrFunds},
		{leave(0, 0), leave(0, 0), api.ErrStatus},
		{vote(1, 1, 0, true), vote(1, 1, 0, true), api.ErrTwice},
		{vote(1, 1, 0, true), vote(1, 1, 0, false), api.ErrTwice},
	} {
		does(t, full(), c.first)
		does(t, full(), c.second)
		stops(t, full(), packed(t, c.first, c.second), 1, c.e)
		stops(t, full(), packed(t, mark(11, field(8)), c.first, mark(11, field(8)), c.second), 3, c.e)
	}
	nearly := changed(func(s *api.State) {
		s.Pool, s.Motions = waiting(api.MaxLine-1), moved(api.MaxMotions-1, api.MotionOpen)
	})
	for _, second := range []api.Deed{stake(0, 11), more(0, 0, 1)} {
		stops(t, nearly, packed(t, stake(1, 20), second), 1, api.ErrFull)
		stops(t, nearly, packed(t, more(1, 1, 2), second), 1, api.ErrFull)
	}
	stops(t, nearly, packed(t, move(0, api.MoveOn), move(1, api.MoveOff)), 1, api.ErrFull)
}

// P25.2: a deed is done that was refused but for one ahead of it.
func TestBlockAheadAllows(t *testing.T) {
	for _, c := range []struct {
		first, second api.Deed
		e             api.Errno
	}{
		{send(0, 1, 1), send(1, 2, 101), api.ErrFunds},
		{send(0, 2, 300), stake(2, 500), api.ErrFunds},
		{send(2, 1, 100), more(1, 3, 200), api.ErrFunds},
		{move(1, api.MoveSpend), vote(0, 5, 2, true), api.ErrClosed},
	} {
		refuses(t, full(), c.second, c.e)
		stops(t, full(), packed(t, c.second, c.first), 0, c.e)
		goes(t, full(), c.first, c.second)
	}
	bare := changed(func(s *api.State) { s.Motions = nil })
	stops(t, bare, packed(t, vote(0, 0, 0, true), move(0, api.MoveOn)), 0, api.ErrMotion)
	after := goes(t, bare, move(0, api.MoveOn), vote(0, 0, 0, true), vote(2, 6, 0, false))
	if m := after.Motions[0]; !slices.Equal(m.Yes, votes(0)) || !slices.Equal(m.No, votes(6)) {
		t.Fatalf("%+v", m)
	}
}

// P25.2: bytes that are wrong are told ahead of deeds that would be refused.
func TestBlockBytesFirst(t *testing.T) {
	poor := packed(t, send(0, 1, 301), leave(0, 0))
	stops(t, full(), poor, 0, api.ErrFunds)
	stops(t, full(), poor[:len(poor)-1], 1, api.ErrEnd)
	stops(t, full(), slices.Concat(poor, []byte{0}), 2, api.ErrLeft)
	wrong := slices.Clone(poor)
	wrong[len(wrong)-3] = 9
	stops(t, full(), wrong, 1, api.ErrDeed)
	wrong[0] = 1
	stops(t, full(), wrong, 1, api.ErrLeft)
}

// P25.2: what was handed in goes on as if a block that was refused had never been.
func TestBlockNothingDone(t *testing.T) {
	s := full()
	got, at, e := rite.Block(s, packed(t, append(line(), send(0, 1, 1000))...))
	if e != api.ErrFunds || at != len(line()) || !reflect.DeepEqual(got, api.State{}) || !alike(s, full()) {
		t.Fatalf("%+v, %d, %d", got, at, e)
	}
	goes(t, s, line()...)
}

// beginning is the state of the document's genesis.
func beginning(t *testing.T) api.State {
	t.Helper()
	s, e := state.New(api.Genesis{
		Params: simple(), Most: 1 << 30, Purses: []uint64{500, 200},
		Founders: []api.Founder{{Balance: 25}, {Owner: 1, Balance: 40}},
	})
	if e != api.OK {
		t.Fatal(e)
	}
	return s
}

// ticked is a state behind so many ticks, both of whose members are marked ahead of each.
func ticked(t *testing.T, s api.State, n int) api.State {
	t.Helper()
	for range n {
		s = goes(t, s, mark(s.Epoch, field(len(s.Members), 0, 1)))
		after, report, e := state.Tick(s)
		if e != api.OK || !report.Quorum {
			t.Fatalf("%+v, %d", report, e)
		}
		s = after
	}
	return s
}

// P25.1 and P25.2: the chapter's examples.
func TestExamples(t *testing.T) {
	poor := changed(func(s *api.State) { s.Purses[1] = 3 })
	if s, e := rite.Do(poor, send(1, 0, 5)); e != api.ErrFunds || !reflect.DeepEqual(s, api.State{}) {
		t.Fatal(s, e)
	}
	if s, at, e := rite.Block(poor, packed(t, send(0, 1, 1), send(1, 0, 5))); at != 1 || e != api.ErrFunds || !reflect.DeepEqual(s, api.State{}) {
		t.Fatal(s, at, e)
	}
}

// P25.1 and P25.2: the document's examples 5 to 8.
func TestDocumentExamples(t *testing.T) {
	s := beginning(t)
	refuses(t, s, stake(0, 10), api.ErrSmall)
	staked := does(t, s, stake(0, 11))
	waits, report, e := state.Tick(staked)
	if e != api.OK || report.Quorum || len(waits.Pool) != 1 || len(waits.Members) != 2 {
		t.Fatalf("%+v, %+v, %d", waits, report, e)
	}
	starts := ticked(t, waits, 1)
	if len(starts.Pool) != 0 || len(starts.Members) != 3 || starts.Members[2].Status != api.StatusActive {
		t.Fatalf("%+v", starts)
	}
	stops(t, s, packed(t, leave(0, 0), leave(0, 0)), 1, api.ErrStatus)
	if s.Members[0].Status != api.StatusActive {
		t.Fatalf("%+v", s)
	}
	voted := goes(t, s, move(1, api.MoveOn), vote(0, 0, 0, true), vote(1, 1, 0, true))
	if on := ticked(t, voted, 5); !on.Emergency || on.Motions[0].State != api.MotionDone {
		t.Fatalf("%+v", on)
	}
	refuses(t, s, mark(1, field(2, 0)), api.ErrEpoch)
	refuses(t, s, mark(0, []byte{4}), api.ErrBits)
}
